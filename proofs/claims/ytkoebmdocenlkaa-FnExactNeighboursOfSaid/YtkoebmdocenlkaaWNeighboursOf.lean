/- The walk of laws.FnExactNeighboursOf. -/
import Derived.Test.YtkoebmdocenlkaaNb4
import Derived.Test.YtkoebmdocenlkaaTailS
namespace Go.Proofs.Ytkoebmdocenlkaa
open Go.RowKit

def NeighboursOf_o (a : ByteArray) : Option (List ByteArray) :=
  match treeOf a with
  | some t => some (nearT t)
  | none => none
theorem NeighboursOf_len (a : ByteArray) : ((NeighboursOf_o a).getD []).length ≤ 1000000000 := by
  unfold NeighboursOf_o
  cases h : treeOf a with
  | none => simp
  | some t =>
    have := nearT_len t
    have := (treeOf_some h).2
    simp; omega

theorem specNeighboursOf_any (a : ByteArray) (w : World) (ha : a.size ≤ 9223372036854775806) :
    Calls Try.prog 25 #[.string a] w (AnsSs (NeighboursOf_o a) w) := by
  cases h : treeOf a with
  | none =>
    rw [show NeighboursOf_o a = none by simp [NeighboursOf_o, h]]
    have H := Lib.hid h
    clear h
    go_enter Try.func25, Try.ntmps25
    go_wp2_with fail
    refine (trIs_no a _ ha H.out).mono ?_; rintro e w1 ⟨rfl, rfl⟩
    go_wp2_with fail
    go_ret2
    exact ⟨_, OwnS.nil _ _, Below.refl _ _, rfl⟩
  | some t =>
    obtain ⟨rfl, hc⟩ := treeOf_some h
    rw [show NeighboursOf_o t.str = some (nearT t) by simp [NeighboursOf_o, h]]
    clear h
    have hA := fun w => brNear_any t w hc
    generalize nearT t = L at *
    go_enter Try.func25, Try.ntmps25
    go_wp2_with fail
    refine (trIs_yes t _ hc).mono ?_; rintro e w1 ⟨rfl, rfl⟩
    go_wp2_with fail
    refine (hA _).mono ?_; rintro e w2 ⟨v, own, hb1, rfl⟩
    go_wp2_with fail
    go_ret2
    exact ⟨_, own, hb1, rfl⟩

theorem implNeighboursOf_any (a : ByteArray) (w : World) (ha : a.size ≤ 9223372036854775806) :
    Calls Try.prog 26 #[.string a] w (AnsSs (NeighboursOf_o a) w) := by
  cases h : treeOf a with
  | none =>
    rw [show NeighboursOf_o a = none by simp [NeighboursOf_o, h]]
    have H := Lib.hid h
    clear h
    go_enter Try.func26, Try.ntmps26
    go_wp2_with fail
    refine (read_no a _ ha H.out).mono ?_; rintro e w1 ⟨hb1, rfl⟩
    go_wp2_with fail
    go_ret2
    exact ⟨_, OwnS.nil _ _, hb1, rfl⟩
  | some t =>
    obtain ⟨rfl, hc⟩ := treeOf_some h
    rw [show NeighboursOf_o t.str = some (nearT t) by simp [NeighboursOf_o, h]]
    clear h
    have hA := fun b w h => neighbours_any t b w h hc
    generalize nearT t = L at *
    go_enter Try.func26, Try.ntmps26
    go_wp2_with fail
    refine (read_yes t _ hc).mono ?_; rintro e w1 ⟨b1, hn1, hb1, rfl⟩
    go_wp2_with fail
    refine (hA b1 _ hn1).mono ?_; rintro e w2 ⟨v, own, hb2, rfl⟩
    go_wp2_with fail
    go_ret2
    exact ⟨_, own.mono hb1.size, nx hb1 hb2, rfl⟩

set_option maxRecDepth 100000 in
set_option maxHeartbeats 1000000 in
theorem fnExactNeighboursOf_walk (a : ByteArray) (ha : a.size ≤ maxLen) (w : World) :
    Calls Try.prog 7 #[.string a] w fun e w' => e = .returned (.bool true) ∧ Below w.heap.size w w' := by
  unfold maxLen at ha
  by_cases hbiga : (1048576 : Int) < a.size
  · go_enter Try.func7, Try.ntmps7
    go_wp2_with fail
    go_ret
    exact ⟨rfl, Below.refl _ _⟩
  have hS := fun w => specNeighboursOf_any a w (by omega)
  have hI := fun w => implNeighboursOf_any a w (by omega)
  have hn9 := NeighboursOf_len a
  obtain ⟨o, ho⟩ : ∃ o, o = NeighboursOf_o a := ⟨_, rfl⟩
  rw [← ho] at hn9
  simp only [← ho] at hS hI
  clear ho
  obtain ⟨xs, ok, hx, hk⟩ : ∃ xs ok, xs = o.getD [] ∧ ok = o.isSome := ⟨_, _, rfl, rfl⟩
  have hS' : ∀ w, Calls Try.prog 25 #[.string a] w (AnsS2 xs ok w) := by rw [hx, hk]; exact hS
  have hI' : ∀ w, Calls Try.prog 26 #[.string a] w (AnsS2 xs ok w) := by rw [hx, hk]; exact hI
  rw [← hx] at hn9
  clear hS hI hx hk
  go_enter Try.func7, Try.ntmps7
  go_wp2_with fail
  refine (hS' _).mono ?_; rintro e w1 ⟨v0, own0, hb1, rfl⟩
  go_wp2_with fail
  refine (hI' _).mono ?_; rintro e w2 ⟨v1, own1, hb2, rfl⟩
  go_wp2_with fail
  refine (eqStringS_any _ _ v1 v0 xs _ own1.cells (own0.keep hb2).cells).mono ?_; rintro e w3 ⟨rfl, n3, hw3⟩
  have hb3 : Below w2.heap.size w2 w3 := by rw [hw3]; exact drewB (Below.refl _ _) n3
  clear hw3
  go_wp2_with fail
  refine (markStringS_1 w1.heap.size v1 xs _ hn9 (hb2.trans (hb3.mono hb2.size)).size (own1.keep hb3)).mono ?_; rintro e w4 ⟨rfl, own4, hb4⟩
  have hb14 : Below w1.heap.size w1 w4 := (hb2.trans (hb3.mono hb2.size)).trans hb4
  have own04 := own0.keep hb14
  go_wp2_with fail
  refine (heldStringS_1 w1.heap.size v1 xs.length _ hn9 own4.cells).mono ?_; rintro e w5 ⟨rfl, hb5⟩
  go_wp2_with fail
  refine (hI' _).mono ?_; rintro e w6 ⟨v2, own6, hb6, rfl⟩
  have hb46 : Below w4.heap.size w4 w6 := nx hb5 hb6
  go_wp2_with fail
  refine (eqStringS_any _ _ v2 v0 xs _ own6.cells (own04.keep hb46).cells).mono ?_; rintro e w7 ⟨rfl, n7, hw7⟩
  have hb7 : Below w6.heap.size w6 w7 := by rw [hw7]; exact drewB (Below.refl _ _) n7
  clear hw7
  go_wp2_with fail
  refine (heldStringS_1 w1.heap.size v1 xs.length _ hn9 (own4.keep (nx hb46 hb7)).cells).mono ?_; rintro e w8 ⟨rfl, hb8⟩
  go_wp2_with fail
  go_ret
  exact ⟨rfl, nx (nx (nx (nx hb1 hb14) hb46) hb7) hb8⟩
end Go.Proofs.Ytkoebmdocenlkaa
