/- The walk of laws.FnExactMirrorTree. -/
import Derived.Test.YtbeailflcinilabAns
import Derived.Test.YtbeailflcinilabMir
namespace Go.Proofs.Ytbeailflcinilab
open Go.RowKit

theorem implMirrorTree_no (s : ByteArray) (w : World) (hs : s.size ≤ 9223372036854775806) (h : treeOf s = none) :
    Calls Try.prog 76 #[.string s] w (Gives (ansV none) w) := by
  have H := Lib.hid h
  clear h
  go_enter Try.func76, Try.ntmps76
  go_wp2_with fail
  refine (read_no s _ hs H.out).mono ?_; rintro e w1 ⟨hb1, rfl⟩
  go_wp2_with fail
  go_ret2
  exact ⟨rfl, hb1⟩

set_option maxHeartbeats 400000 in
theorem implMirrorTree_yes (t : Tr) (w : World) (h : t.carets ≤ 8) :
    Calls Try.prog 76 #[.string t.str] w (Gives (ansV (some t.mir)) w) := by
  have hm := mir_carets t
  go_enter Try.func76, Try.ntmps76
  go_wp2_with fail
  refine (read_yes t _ h).mono ?_; rintro e w1 ⟨b1, hn1, hb1, rfl⟩
  go_wp2_with fail
  refine (mirrored_any t b1 _ hn1).mono ?_; rintro e w2 ⟨b2, hn2, hb2, rfl⟩
  go_wp2_with fail
  refine (text_any t.mir b2 _ hn2 (by omega)).mono ?_; rintro e w3 ⟨rfl, n, rfl⟩
  go_wp2_with fail
  go_ret2
  exact ⟨rfl, drewB (nx hb1 hb2) _⟩

def mirO (a : ByteArray) : Option Tr :=
  match treeOf a with
  | some t => some t.mir
  | none => none

theorem implMirrorTree_any (a : ByteArray) (w : World) (ha : a.size ≤ 9223372036854775806) :
    Calls Try.prog 76 #[.string a] w (Gives (ansV (mirO a)) w) := by
  cases h : treeOf a with
  | none =>
    rw [show mirO a = none by simp [mirO, h]]
    exact implMirrorTree_no a w ha h
  | some t =>
    obtain ⟨rfl, hc⟩ := treeOf_some h
    rw [show mirO t.str = some t.mir by simp [mirO, h]]
    exact implMirrorTree_yes t w hc

end Go.Proofs.Ytbeailflcinilab
