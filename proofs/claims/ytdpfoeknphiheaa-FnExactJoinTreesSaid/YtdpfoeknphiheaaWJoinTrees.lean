/- The walk of laws.FnExactJoinTrees. -/
import Derived.Test.YtdpfoeknphiheaaTwo
namespace Go.Proofs.Ytdpfoeknphiheaa
open Go.RowKit

def joinO (a b : ByteArray) : Option Tr :=
  match treeOf a, treeOf b with
  | some t, some u => lim (t.join u)
  | _, _ => none

theorem specJoinTrees_any (a b : ByteArray) (w : World) (ha : a.size ≤ 9223372036854775806) (hb : b.size ≤ 9223372036854775806) :
    Calls Try.prog 39 #[.string a, .string b] w (Gives (ansV (joinO a b)) w) := by
  cases h : treeOf a with
  | none =>
    rw [show joinO a b = none by simp [joinO, h]]
    exact specJoinTrees_no1 a b w ha h
  | some t =>
    obtain ⟨rfl, hc⟩ := treeOf_some h
    cases k : treeOf b with
    | none =>
      rw [show joinO t.str b = none by simp [joinO, k]]
      exact specJoinTrees_no2 t b w hc hb k
    | some u =>
      obtain ⟨rfl, hd⟩ := treeOf_some k
      rw [show joinO t.str u.str = lim (t.join u) by simp [joinO, h, k]]
      exact specJoinTrees_yes t u w hc hd

theorem implJoinTrees_any (a b : ByteArray) (w : World) (ha : a.size ≤ 9223372036854775806) (hb : b.size ≤ 9223372036854775806) :
    Calls Try.prog 38 #[.string a, .string b] w (Gives (ansV (joinO a b)) w) := by
  cases h : treeOf a with
  | none =>
    rw [show joinO a b = none by simp [joinO, h]]
    exact implJoinTrees_no1 a b w ha h
  | some t =>
    obtain ⟨rfl, hc⟩ := treeOf_some h
    cases k : treeOf b with
    | none =>
      rw [show joinO t.str b = none by simp [joinO, k]]
      exact implJoinTrees_no2 t b w hc hb k
    | some u =>
      obtain ⟨rfl, hd⟩ := treeOf_some k
      rw [show joinO t.str u.str = lim (t.join u) by simp [joinO, h, k]]
      exact implJoinTrees_yes t u w hc hd

theorem fnExactJoinTrees_walk (a : ByteArray) (ha : a.size ≤ maxLen) (b : ByteArray) (hb : b.size ≤ maxLen) (w : World) :
    Calls Try.prog 13 #[.string a, .string b] w fun e w' => e = .returned (.bool true) ∧ Below w.heap.size w w' := by
  unfold maxLen at ha hb
  by_cases hbiga : (1048576 : Int) < a.size
  · go_enter Try.func13, Try.ntmps13
    go_wp2_with fail
    go_ret
    exact ⟨rfl, Below.refl _ _⟩
  by_cases hbigb : (1048576 : Int) < b.size
  · go_enter Try.func13, Try.ntmps13
    go_wp2_with fail
    go_ret
    exact ⟨rfl, Below.refl _ _⟩
  go_enter Try.func13, Try.ntmps13
  go_wp2_with fail
  refine (specJoinTrees_any a b _ (by omega) (by omega)).mono ?_; rintro e w1 ⟨rfl, hb1⟩
  unfold ansV
  go_wp2_with fail
  refine (implJoinTrees_any a b _ (by omega) (by omega)).mono ?_; rintro e w2 ⟨rfl, hb2⟩
  unfold ansV
  go_wp2_with fail
  go_ret
  exact ⟨rfl, nx hb1 hb2⟩

end Go.Proofs.Ytdpfoeknphiheaa
