/- The walk of laws.FnExactCommonTree. -/
import Derived.Test.YtdpfoeknphiheaaTwo
namespace Go.Proofs.Ytdpfoeknphiheaa
open Go.RowKit

def comO (a b : ByteArray) : Option Tr :=
  match treeOf a, treeOf b with
  | some t, some u => some (t.com u)
  | _, _ => none

theorem specCommonTree_any (a b : ByteArray) (w : World) (ha : a.size ≤ 9223372036854775806) (hb : b.size ≤ 9223372036854775806) :
    Calls Try.prog 41 #[.string a, .string b] w (Gives (ansV (comO a b)) w) := by
  cases h : treeOf a with
  | none =>
    rw [show comO a b = none by simp [comO, h]]
    exact specCommonTree_no1 a b w ha h
  | some t =>
    obtain ⟨rfl, hc⟩ := treeOf_some h
    cases k : treeOf b with
    | none =>
      rw [show comO t.str b = none by simp [comO, k]]
      exact specCommonTree_no2 t b w hc hb k
    | some u =>
      obtain ⟨rfl, hd⟩ := treeOf_some k
      rw [show comO t.str u.str = some (t.com u) by simp [comO, h, k]]
      exact specCommonTree_yes t u w hc hd

theorem implCommonTree_any (a b : ByteArray) (w : World) (ha : a.size ≤ 9223372036854775806) (hb : b.size ≤ 9223372036854775806) :
    Calls Try.prog 40 #[.string a, .string b] w (Gives (ansV (comO a b)) w) := by
  cases h : treeOf a with
  | none =>
    rw [show comO a b = none by simp [comO, h]]
    exact implCommonTree_no1 a b w ha h
  | some t =>
    obtain ⟨rfl, hc⟩ := treeOf_some h
    cases k : treeOf b with
    | none =>
      rw [show comO t.str b = none by simp [comO, k]]
      exact implCommonTree_no2 t b w hc hb k
    | some u =>
      obtain ⟨rfl, hd⟩ := treeOf_some k
      rw [show comO t.str u.str = some (t.com u) by simp [comO, h, k]]
      exact implCommonTree_yes t u w hc hd

theorem fnExactCommonTree_walk (a : ByteArray) (ha : a.size ≤ maxLen) (b : ByteArray) (hb : b.size ≤ maxLen) (w : World) :
    Calls Try.prog 14 #[.string a, .string b] w fun e w' => e = .returned (.bool true) ∧ Below w.heap.size w w' := by
  unfold maxLen at ha hb
  by_cases hbiga : (1048576 : Int) < a.size
  · go_enter Try.func14, Try.ntmps14
    go_wp2_with fail
    go_ret
    exact ⟨rfl, Below.refl _ _⟩
  by_cases hbigb : (1048576 : Int) < b.size
  · go_enter Try.func14, Try.ntmps14
    go_wp2_with fail
    go_ret
    exact ⟨rfl, Below.refl _ _⟩
  go_enter Try.func14, Try.ntmps14
  go_wp2_with fail
  refine (specCommonTree_any a b _ (by omega) (by omega)).mono ?_; rintro e w1 ⟨rfl, hb1⟩
  unfold ansV
  go_wp2_with fail
  refine (implCommonTree_any a b _ (by omega) (by omega)).mono ?_; rintro e w2 ⟨rfl, hb2⟩
  unfold ansV
  go_wp2_with fail
  go_ret
  exact ⟨rfl, nx hb1 hb2⟩

end Go.Proofs.Ytdpfoeknphiheaa
