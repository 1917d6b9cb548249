/- The walk of laws.FnExactCountRotations. -/
import Derived.Test.YtkoebmdocenlkaaAns
import Derived.Test.YtkoebmdocenlkaaCount
namespace Go.Proofs.Ytkoebmdocenlkaa
open Go.RowKit

def ansK (o : Option Nat) : Value := .tuple #[.int .i64 (o.getD 0), .bool o.isSome]
def rotsO (a : ByteArray) : Option Nat :=
  match treeOf a with
  | some t => some (t.carets - 1)
  | none => none

theorem l1Most_0 (n : Nat) (x : Int) (hx : x = (n : Int) - 1) (w : World) (h : n ≤ 8) :
    Calls Try.prog 57 #[.int .i64 0, .int .i64 x] w fun e w' => e = .returned (.int .i64 ((n - 1 : Nat) : Int)) ∧ w = w' := by
  cases n with
  | zero =>
    subst hx
    go_enter Try.func57, Try.ntmps57
    go_wp2_with fail
    go_ret
    exact ⟨rfl, rfl⟩
  | succ m =>
    obtain rfl : x = (m : Int) := by omega
    rw [Nat.add_sub_cancel]
    by_cases h0 : m = 0
    · subst h0
      go_enter Try.func57, Try.ntmps57
      go_wp2_with fail
      go_ret
      exact ⟨rfl, rfl⟩
    · have h1 : ¬ (0 : Int) > (m : Int) := by omega
      clear h0 hx
      go_enter Try.func57, Try.ntmps57
      go_wp2_with fail
      go_ret
      exact ⟨rfl, rfl⟩

theorem specCountRotations_any (a : ByteArray) (w : World) (ha : a.size ≤ 9223372036854775806) :
    Calls Try.prog 23 #[.string a] w (Gives (ansK (rotsO a)) w) := by
  cases h : treeOf a with
  | none =>
    rw [show rotsO a = none by simp [rotsO, h]]
    have H := Lib.hid h
    clear h
    go_enter Try.func23, Try.ntmps23
    go_wp2_with fail
    refine (trIs_no a _ ha H.out).mono ?_; rintro e w1 ⟨rfl, rfl⟩
    go_wp2_with fail
    go_ret2
    exact ⟨rfl, Below.refl _ _⟩
  | some t =>
    obtain ⟨rfl, hc⟩ := treeOf_some h
    rw [show rotsO t.str = some (t.carets - 1) by simp [rotsO, h]]
    clear h
    have hM := fun x w hx => l1Most_0 t.carets x hx w hc
    have hC := fun w => carets_str t w (by omega)
    have hT := fun w => trIs_yes t w hc
    generalize t.carets = n at *
    go_enter Try.func23, Try.ntmps23
    go_wp2_with fail
    refine (hT _).mono ?_; rintro e w1 ⟨rfl, rfl⟩
    go_wp2_with fail
    refine (hC _).mono ?_; rintro e w1 ⟨rfl, rfl⟩
    go_wp2_with fail
    refine (hM _ _ (by first | rfl | go_num)).mono ?_; rintro e w1 ⟨rfl, rfl⟩
    go_wp2_with fail
    go_ret2
    exact ⟨rfl, Below.refl _ _⟩

theorem implCountRotations_any (a : ByteArray) (w : World) (ha : a.size ≤ 9223372036854775806) :
    Calls Try.prog 24 #[.string a] w (Gives (ansK (rotsO a)) w) := by
  cases h : treeOf a with
  | none =>
    rw [show rotsO a = none by simp [rotsO, h]]
    have H := Lib.hid h
    clear h
    go_enter Try.func24, Try.ntmps24
    go_wp2_with fail
    refine (implIsTree_no a _ ha H.out).mono ?_; rintro e w1 ⟨hb1, rfl⟩
    go_wp2_with fail
    go_ret2
    exact ⟨rfl, hb1⟩
  | some t =>
    obtain ⟨rfl, hc⟩ := treeOf_some h
    rw [show rotsO t.str = some (t.carets - 1) by simp [rotsO, h]]
    clear h
    have hC := fun w => countCarets_any t w (by omega)
    have hT := fun w => implIsTree_yes t w hc
    generalize t.carets = n at *
    by_cases h0 : n = 0
    · subst h0
      go_enter Try.func24, Try.ntmps24
      go_wp2_with fail
      refine (hT _).mono ?_; rintro e w1 ⟨hb1, rfl⟩
      go_wp2_with fail
      refine (hC _).mono ?_; rintro e w2 ⟨rfl, hb2⟩
      go_wp2_with fail
      go_ret2
      exact ⟨rfl, nx hb1 hb2⟩
    · have h1 : ¬ ((n : Int) - 1 < 0) := by omega
      have hm : (n : Int) - 1 = ((n - 1 : Nat) : Int) := by omega
      have HM := Lib.hid hm
      clear hm h0
      go_enter Try.func24, Try.ntmps24
      go_wp2_with fail
      refine (hT _).mono ?_; rintro e w1 ⟨hb1, rfl⟩
      go_wp2_with fail
      refine (hC _).mono ?_; rintro e w2 ⟨rfl, hb2⟩
      go_wp2_with fail
      go_ret2
      exact ⟨by show Ending.returned (.tuple #[.int .i64 ((n : Int) - 1), .bool true]) = _; rw [HM.out]; rfl, nx hb1 hb2⟩

theorem fnExactCountRotations_walk (a : ByteArray) (ha : a.size ≤ maxLen) (w : World) :
    Calls Try.prog 6 #[.string a] w fun e w' => e = .returned (.bool true) ∧ Below w.heap.size w w' := by
  unfold maxLen at ha
  by_cases hbiga : (1048576 : Int) < a.size
  · go_enter Try.func6, Try.ntmps6
    go_wp2_with fail
    go_ret
    exact ⟨rfl, Below.refl _ _⟩
  go_enter Try.func6, Try.ntmps6
  go_wp2_with fail
  refine (specCountRotations_any a _ (by omega)).mono ?_; rintro e w1 ⟨rfl, hb1⟩
  unfold ansK
  go_wp2_with fail
  refine (implCountRotations_any a _ (by omega)).mono ?_; rintro e w2 ⟨rfl, hb2⟩
  unfold ansK
  go_wp2_with fail
  go_ret
  exact ⟨rfl, nx hb1 hb2⟩
end Go.Proofs.Ytkoebmdocenlkaa
