/- The walk of laws.FnExactExposedOf. -/
import Derived.Test.YtbeailflcinilaaTail
import Derived.Test.YtbeailflcinilaaSpecExp
import Derived.Test.YtbeailflcinilaaImplExp
import Derived.Test.YtbeailflcinilaaAns
namespace Go.Proofs.Ytbeailflcinilaa
open Go.RowKit

def ExposedOf_o (a : ByteArray) : Option (List Int) :=
  match treeOf a with
  | some t => some (exL t.text 0)
  | none => none

theorem ExposedOf_len (a : ByteArray) : ((ExposedOf_o a).getD []).length ≤ 1000000000 := by
  unfold ExposedOf_o
  cases h : treeOf a with
  | none => simp
  | some t =>
    have := exL_length t.text 0
    have := t.text_len
    have := (treeOf_some h).2
    simp; omega

theorem specExposedOf_any (a : ByteArray) (w : World) (ha : a.size ≤ 9223372036854775806) :
    Calls Try.prog 17 #[.string a] w (AnsIs (ExposedOf_o a) w) := by
  cases h : treeOf a with
  | none =>
    rw [show ExposedOf_o a = none by simp [ExposedOf_o, h]]
    have H := Lib.hid h
    clear h
    go_enter Try.func17, Try.ntmps17
    go_wp2_with fail
    refine (trIs_no a _ ha H.out).mono ?_; rintro e w1 ⟨rfl, rfl⟩
    go_wp2_with fail
    go_ret2
    exact ⟨_, OwnI.nil _ _, Below.refl _ _, rfl⟩
  | some t =>
    obtain ⟨rfl, hc⟩ := treeOf_some h
    rw [show ExposedOf_o t.str = some (exL t.text 0) by simp [ExposedOf_o, h]]
    have st := t.str_size
    have he := trExposed_any t.str
    rw [Tr.str_list] at he
    clear h
    go_enter Try.func17, Try.ntmps17
    go_wp2_with fail
    refine (trIs_yes t _ hc).mono ?_; rintro e w1 ⟨rfl, rfl⟩
    go_wp2_with fail
    refine (he _ (by omega)).mono ?_; rintro e w1 ⟨v, own, hb1, rfl⟩
    go_wp2_with fail
    go_ret2
    exact ⟨_, own, hb1, rfl⟩

theorem implExposedOf_any (a : ByteArray) (w : World) (ha : a.size ≤ 9223372036854775806) :
    Calls Try.prog 18 #[.string a] w (AnsIs (ExposedOf_o a) w) := by
  cases h : treeOf a with
  | none =>
    rw [show ExposedOf_o a = none by simp [ExposedOf_o, h]]
    have H := Lib.hid h
    clear h
    go_enter Try.func18, Try.ntmps18
    go_wp2_with fail
    refine (implIsTree_no a _ ha H.out).mono ?_; rintro e w1 ⟨hb1, rfl⟩
    go_wp2_with fail
    go_ret2
    exact ⟨_, OwnI.nil _ _, hb1, rfl⟩
  | some t =>
    obtain ⟨rfl, hc⟩ := treeOf_some h
    rw [show ExposedOf_o t.str = some (exL t.text 0) by simp [ExposedOf_o, h]]
    exact implExposedOf_yes t w hc

set_option maxRecDepth 100000 in
set_option maxHeartbeats 1000000 in
theorem fnExactExposedOf_walk (a : ByteArray) (ha : a.size ≤ maxLen) (w : World) :
    Calls Try.prog 4 #[.string a] w fun e w' => e = .returned (.bool true) ∧ Below w.heap.size w w' := by
  unfold maxLen at ha
  by_cases hbiga : (1048576 : Int) < a.size
  · go_enter Try.func4, Try.ntmps4
    go_wp2_with fail
    go_ret
    exact ⟨rfl, Below.refl _ _⟩
  have hS := fun w => specExposedOf_any a w (by omega)
  have hI := fun w => implExposedOf_any a w (by omega)
  have hn9 := ExposedOf_len a
  obtain ⟨o, ho⟩ : ∃ o, o = ExposedOf_o a := ⟨_, rfl⟩
  rw [← ho] at hn9
  simp only [← ho] at hS hI
  clear ho
  obtain ⟨xs, ok, hx, hk⟩ : ∃ xs ok, xs = o.getD [] ∧ ok = o.isSome := ⟨_, _, rfl, rfl⟩
  have hS' : ∀ w, Calls Try.prog 17 #[.string a] w (AnsI2 xs ok w) := by rw [hx, hk]; exact hS
  have hI' : ∀ w, Calls Try.prog 18 #[.string a] w (AnsI2 xs ok w) := by rw [hx, hk]; exact hI
  rw [← hx] at hn9
  clear hS hI hx hk
  go_enter Try.func4, Try.ntmps4
  go_wp2_with fail
  refine (hS' _).mono ?_; rintro e w1 ⟨v0, own0, hb1, rfl⟩
  go_wp2_with fail
  refine (hI' _).mono ?_; rintro e w2 ⟨v1, own1, hb2, rfl⟩
  go_wp2_with fail
  refine (eqIntS_any _ _ v1 v0 xs _ own1.cells (own0.keep hb2).cells).mono ?_; rintro e w3 ⟨rfl, n3, hw3⟩
  have hb3 : Below w2.heap.size w2 w3 := by rw [hw3]; exact drewB (Below.refl _ _) n3
  clear hw3
  go_wp2_with fail
  refine (markIntS_any w1.heap.size v1 xs xs.length rfl 1 _ (by omega) (by omega) hn9 (own1.keep hb3)).mono ?_; rintro e w4 ⟨rfl, own4, hb4⟩
  have hb14 : Below w1.heap.size w1 w4 := (hb2.trans (hb3.mono hb2.size)).trans hb4
  have own04 := own0.keep hb14
  go_wp2_with fail
  refine (heldIntS_any w1.heap.size v1 xs.length 1 _ (by omega) (by omega) hn9 own4.cells).mono ?_; rintro e w5 ⟨rfl, n5, hw5⟩
  have hb5 : Below w4.heap.size w4 w5 := by rw [hw5]; exact drewB (Below.refl _ _) n5
  clear hw5
  go_wp2_with fail
  refine (hI' _).mono ?_; rintro e w6 ⟨v2, own6, hb6, rfl⟩
  have hb46 : Below w4.heap.size w4 w6 := nx hb5 hb6
  go_wp2_with fail
  refine (eqIntS_any _ _ v2 v0 xs _ own6.cells (own04.keep hb46).cells).mono ?_; rintro e w7 ⟨rfl, n7, hw7⟩
  have hb7 : Below w6.heap.size w6 w7 := by rw [hw7]; exact drewB (Below.refl _ _) n7
  clear hw7
  go_wp2_with fail
  refine (heldIntS_any w1.heap.size v1 xs.length 1 _ (by omega) (by omega) hn9 (own4.keep (nx hb46 hb7)).cells).mono ?_; rintro e w8 ⟨rfl, n8, hw8⟩
  have hb8 : Below w7.heap.size w7 w8 := by rw [hw8]; exact drewB (Below.refl _ _) n8
  clear hw8
  go_wp2_with fail
  go_ret
  exact ⟨rfl, nx (nx (nx (nx hb1 hb14) hb46) hb7) hb8⟩

end Go.Proofs.Ytbeailflcinilaa
