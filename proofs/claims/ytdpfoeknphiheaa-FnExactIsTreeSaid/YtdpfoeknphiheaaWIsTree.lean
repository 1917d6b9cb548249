/- The walk of laws.FnExactIsTree. -/
import Derived.Test.YtdpfoeknphiheaaRead
import Derived.Test.YtdpfoeknphiheaaCarets
namespace Go.Proofs.Ytdpfoeknphiheaa
open Go.RowKit

theorem fnExactIsTree_walk (s : ByteArray) (hs : s.size ≤ maxLen) (w : World) :
    Calls Try.prog 6 #[.string s] w fun e w' => e = .returned (.bool true) ∧ Below w.heap.size w w' := by
  unfold maxLen at hs
  by_cases hbig : (1048576 : Int) < s.size
  · go_enter Try.func6, Try.ntmps6
    go_wp2_with fail
    go_ret
    exact ⟨rfl, Below.refl _ _⟩
  · have hs' : s.size ≤ 9223372036854775806 := by omega
    have hB := isTreeB_eq s
    cases ht : treeOf s with
    | none =>
      rw [ht] at hB
      have HT := Lib.hid ht
      have HB := Lib.hid hB
      clear ht hB
      go_enter Try.func6, Try.ntmps6
      go_wp2_with fail
      refine (specIsTree_any s _ hs').mono ?_; rintro e w' ⟨rfl, rfl⟩
      rw [HB.out]
      go_wp2_with fail
      refine (implIsTree_no s _ hs' HT.out).mono ?_; rintro e w1 ⟨hb1, rfl⟩
      go_wp2_with fail
      go_ret
      exact ⟨rfl, hb1⟩
    | some t =>
      obtain ⟨rfl, hc⟩ := treeOf_some ht
      rw [ht] at hB
      have HB := Lib.hid hB
      clear ht hB
      go_enter Try.func6, Try.ntmps6
      go_wp2_with fail
      refine (specIsTree_any t.str _ hs').mono ?_; rintro e w' ⟨rfl, rfl⟩
      rw [HB.out]
      go_wp2_with fail
      refine (implIsTree_yes t _ hc).mono ?_; rintro e w1 ⟨hb1, rfl⟩
      go_wp2_with fail
      go_ret
      exact ⟨rfl, hb1⟩
end Go.Proofs.Ytdpfoeknphiheaa
