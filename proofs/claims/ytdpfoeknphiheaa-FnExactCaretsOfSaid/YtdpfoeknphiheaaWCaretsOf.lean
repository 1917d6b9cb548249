/- The walk of laws.FnExactCaretsOf. -/
import Derived.Test.YtdpfoeknphiheaaAns
import Derived.Test.YtdpfoeknphiheaaCount
namespace Go.Proofs.Ytdpfoeknphiheaa
open Go.RowKit

/-- An answer of a number and a bool. -/
def ansI (o : Option Nat) : Value := .tuple #[.int .i64 (o.getD 0), .bool o.isSome]

theorem specCaretsOf_no (s : ByteArray) (w : World) (hs : s.size ≤ 9223372036854775806) (h : treeOf s = none) :
    Calls Try.prog 24 #[.string s] w (Gives (ansI none) w) := by
  have H := Lib.hid h
  clear h
  go_enter Try.func24, Try.ntmps24
  go_wp2_with fail
  refine (trIs_no s _ hs H.out).mono ?_; rintro e w1 ⟨rfl, rfl⟩
  go_wp2_with fail
  go_ret2
  exact ⟨rfl, Below.refl _ _⟩

set_option maxHeartbeats 400000 in
theorem specCaretsOf_yes (t : Tr) (w : World) (h : t.carets ≤ 8) :
    Calls Try.prog 24 #[.string t.str] w (Gives (ansI (some t.carets)) w) := by
  go_enter Try.func24, Try.ntmps24
  go_wp2_with fail
  refine (trIs_yes t _ h).mono ?_; rintro e w1 ⟨rfl, rfl⟩
  go_wp2_with fail
  refine (carets_str t _ (by omega)).mono ?_; rintro e w1 ⟨rfl, rfl⟩
  go_wp2_with fail
  go_ret2
  exact ⟨rfl, Below.refl _ _⟩

theorem implCaretsOf_no (s : ByteArray) (w : World) (hs : s.size ≤ 9223372036854775806) (h : treeOf s = none) :
    Calls Try.prog 23 #[.string s] w (Gives (ansI none) w) := by
  have H := Lib.hid h
  clear h
  go_enter Try.func23, Try.ntmps23
  go_wp2_with fail
  refine (implIsTree_no s _ hs H.out).mono ?_; rintro e w1 ⟨hb1, rfl⟩
  go_wp2_with fail
  go_ret2
  exact ⟨rfl, hb1⟩

set_option maxHeartbeats 400000 in
theorem implCaretsOf_yes (t : Tr) (w : World) (h : t.carets ≤ 8) :
    Calls Try.prog 23 #[.string t.str] w (Gives (ansI (some t.carets)) w) := by
  go_enter Try.func23, Try.ntmps23
  go_wp2_with fail
  refine (implIsTree_yes t _ h).mono ?_; rintro e w1 ⟨hb1, rfl⟩
  go_wp2_with fail
  refine (countCarets_any t _ (by omega)).mono ?_; rintro e w2 ⟨rfl, hb2⟩
  go_wp2_with fail
  go_ret2
  exact ⟨rfl, nx hb1 hb2⟩

def caretsO (a : ByteArray) : Option Nat :=
  match treeOf a with
  | some t => some t.carets
  | none => none

theorem specCaretsOf_any (a : ByteArray) (w : World) (ha : a.size ≤ 9223372036854775806) :
    Calls Try.prog 24 #[.string a] w (Gives (ansI (caretsO a)) w) := by
  cases h : treeOf a with
  | none =>
    rw [show caretsO a = none by simp [caretsO, h]]
    exact specCaretsOf_no a w ha h
  | some t =>
    obtain ⟨rfl, hc⟩ := treeOf_some h
    rw [show caretsO t.str = some t.carets by simp [caretsO, h]]
    exact specCaretsOf_yes t w hc

theorem implCaretsOf_any (a : ByteArray) (w : World) (ha : a.size ≤ 9223372036854775806) :
    Calls Try.prog 23 #[.string a] w (Gives (ansI (caretsO a)) w) := by
  cases h : treeOf a with
  | none =>
    rw [show caretsO a = none by simp [caretsO, h]]
    exact implCaretsOf_no a w ha h
  | some t =>
    obtain ⟨rfl, hc⟩ := treeOf_some h
    rw [show caretsO t.str = some t.carets by simp [caretsO, h]]
    exact implCaretsOf_yes t w hc

theorem fnExactCaretsOf_walk (a : ByteArray) (ha : a.size ≤ maxLen) (w : World) :
    Calls Try.prog 7 #[.string a] w fun e w' => e = .returned (.bool true) ∧ Below w.heap.size w w' := by
  unfold maxLen at ha
  by_cases hbiga : (1048576 : Int) < a.size
  · go_enter Try.func7, Try.ntmps7
    go_wp2_with fail
    go_ret
    exact ⟨rfl, Below.refl _ _⟩
  go_enter Try.func7, Try.ntmps7
  go_wp2_with fail
  refine (specCaretsOf_any a _ (by omega)).mono ?_; rintro e w1 ⟨rfl, hb1⟩
  unfold ansI
  go_wp2_with fail
  refine (implCaretsOf_any a _ (by omega)).mono ?_; rintro e w2 ⟨rfl, hb2⟩
  unfold ansI
  go_wp2_with fail
  go_ret
  exact ⟨rfl, nx hb1 hb2⟩

end Go.Proofs.Ytdpfoeknphiheaa
