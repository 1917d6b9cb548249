/- The walk of laws.FnExactIsPartOf. -/
import Derived.Test.YtdpfoeknphiheabTwo
namespace Go.Proofs.Ytdpfoeknphiheab
open Go.RowKit

def partO (a b : ByteArray) : Option Bool :=
  match treeOf a, treeOf b with
  | some t, some u => some (t.part u)
  | _, _ => none

theorem specIsPartOf_any (a b : ByteArray) (w : World) (ha : a.size ≤ 9223372036854775806) (hb : b.size ≤ 9223372036854775806) :
    Calls Try.prog 13 #[.string a, .string b] w (Gives (ansB (partO a b)) w) := by
  cases h : treeOf a with
  | none =>
    rw [show partO a b = none by simp [partO, h]]
    exact specIsPartOf_no1 a b w ha h
  | some t =>
    obtain ⟨rfl, hc⟩ := treeOf_some h
    cases k : treeOf b with
    | none =>
      rw [show partO t.str b = none by simp [partO, k]]
      exact specIsPartOf_no2 t b w hc hb k
    | some u =>
      obtain ⟨rfl, hd⟩ := treeOf_some k
      rw [show partO t.str u.str = some (t.part u) by simp [partO, h, k]]
      exact specIsPartOf_yes t u w hc hd

theorem implIsPartOf_any (a b : ByteArray) (w : World) (ha : a.size ≤ 9223372036854775806) (hb : b.size ≤ 9223372036854775806) :
    Calls Try.prog 14 #[.string a, .string b] w (Gives (ansB (partO a b)) w) := by
  cases h : treeOf a with
  | none =>
    rw [show partO a b = none by simp [partO, h]]
    exact implIsPartOf_no1 a b w ha h
  | some t =>
    obtain ⟨rfl, hc⟩ := treeOf_some h
    cases k : treeOf b with
    | none =>
      rw [show partO t.str b = none by simp [partO, k]]
      exact implIsPartOf_no2 t b w hc hb k
    | some u =>
      obtain ⟨rfl, hd⟩ := treeOf_some k
      rw [show partO t.str u.str = some (t.part u) by simp [partO, h, k]]
      exact implIsPartOf_yes t u w hc hd

theorem fnExactIsPartOf_walk (a : ByteArray) (ha : a.size ≤ maxLen) (b : ByteArray) (hb : b.size ≤ maxLen) (w : World) :
    Calls Try.prog 3 #[.string a, .string b] w fun e w' => e = .returned (.bool true) ∧ Below w.heap.size w w' := by
  unfold maxLen at ha hb
  by_cases hbiga : (1048576 : Int) < a.size
  · go_enter Try.func3, Try.ntmps3
    go_wp2_with fail
    go_ret
    exact ⟨rfl, Below.refl _ _⟩
  by_cases hbigb : (1048576 : Int) < b.size
  · go_enter Try.func3, Try.ntmps3
    go_wp2_with fail
    go_ret
    exact ⟨rfl, Below.refl _ _⟩
  go_enter Try.func3, Try.ntmps3
  go_wp2_with fail
  refine (specIsPartOf_any a b _ (by omega) (by omega)).mono ?_; rintro e w1 ⟨rfl, hb1⟩
  unfold ansB
  go_wp2_with fail
  refine (implIsPartOf_any a b _ (by omega) (by omega)).mono ?_; rintro e w2 ⟨rfl, hb2⟩
  unfold ansB
  go_wp2_with fail
  go_ret
  exact ⟨rfl, nx hb1 hb2⟩

end Go.Proofs.Ytdpfoeknphiheab
