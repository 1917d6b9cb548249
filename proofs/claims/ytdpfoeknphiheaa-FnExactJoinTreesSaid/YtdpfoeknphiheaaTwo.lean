/- Walks: JoinTrees, CommonTree, IsPartOf of both sides. -/
import Derived.Test.YtdpfoeknphiheaaAns
import Derived.Test.YtdpfoeknphiheaaJoin
namespace Go.Proofs.Ytdpfoeknphiheaa
open Go.RowKit

theorem specJoinTrees_no1 (s u : ByteArray) (w : World) (hs : s.size ≤ 9223372036854775806) (h : treeOf s = none) :
    Calls Try.prog 39 #[.string s, .string u] w (Gives (ansV none) w) := by
  have H := Lib.hid h
  clear h
  go_enter Try.func39, Try.ntmps39
  go_wp2_with fail
  refine (trIs_no s _ hs H.out).mono ?_; rintro e w1 ⟨rfl, rfl⟩
  go_wp2_with fail
  go_ret2
  exact ⟨rfl, Below.refl _ _⟩

theorem specJoinTrees_no2 (t : Tr) (s : ByteArray) (w : World) (k : t.carets ≤ 8) (hs : s.size ≤ 9223372036854775806) (h : treeOf s = none) :
    Calls Try.prog 39 #[.string t.str, .string s] w (Gives (ansV none) w) := by
  have H := Lib.hid h
  clear h
  go_enter Try.func39, Try.ntmps39
  go_wp2_with fail
  refine (trIs_yes t _ k).mono ?_; rintro e w1 ⟨rfl, rfl⟩
  go_wp2_with fail
  refine (trIs_no s _ hs H.out).mono ?_; rintro e w1 ⟨rfl, rfl⟩
  go_wp2_with fail
  go_ret2
  exact ⟨rfl, Below.refl _ _⟩

theorem specJoinTrees_yes (t u : Tr) (w : World) (h : t.carets ≤ 8) (k : u.carets ≤ 8) :
    Calls Try.prog 39 #[.string t.str, .string u.str] w (Gives (ansV (lim (t.join u))) w) := by
  have hj := join_carets t u
  go_enter Try.func39, Try.ntmps39
  go_wp2_with fail
  refine (trIs_yes t _ h).mono ?_; rintro e w1 ⟨rfl, rfl⟩
  go_wp2_with fail
  refine (trIs_yes u _ k).mono ?_; rintro e w1 ⟨rfl, rfl⟩
  go_wp2_with fail
  refine (trJoin_any t u _ (by omega) (by omega)).mono ?_; rintro e w2 ⟨rfl, hb2⟩
  go_wp2_with fail
  refine (carets_str (t.join u) _ (by omega)).mono ?_; rintro e w3 ⟨rfl, rfl⟩
  by_cases hl : ((t.join u).carets : Int) ≤ 8
  all_goals
    go_wp2_with fail
    go_ret2
  · exact ⟨by rw [lim, if_pos (by omega)]; rfl, hb2⟩
  · exact ⟨by rw [lim, if_neg (by omega)]; rfl, hb2⟩

theorem implJoinTrees_no1 (s u : ByteArray) (w : World) (hs : s.size ≤ 9223372036854775806) (h : treeOf s = none) :
    Calls Try.prog 38 #[.string s, .string u] w (Gives (ansV none) w) := by
  have H := Lib.hid h
  clear h
  go_enter Try.func38, Try.ntmps38
  go_wp2_with fail
  refine (trees_no1 s u _ hs H.out).mono ?_; rintro e w1 ⟨hb1, rfl⟩
  go_wp2_with fail
  go_ret2
  exact ⟨rfl, hb1⟩

theorem implJoinTrees_no2 (t : Tr) (s : ByteArray) (w : World) (k : t.carets ≤ 8) (hs : s.size ≤ 9223372036854775806) (h : treeOf s = none) :
    Calls Try.prog 38 #[.string t.str, .string s] w (Gives (ansV none) w) := by
  have H := Lib.hid h
  clear h
  go_enter Try.func38, Try.ntmps38
  go_wp2_with fail
  refine (trees_no2 t s _ k hs H.out).mono ?_; rintro e w1 ⟨hb1, rfl⟩
  go_wp2_with fail
  go_ret2
  exact ⟨rfl, hb1⟩

theorem implJoinTrees_yes (t u : Tr) (w : World) (h : t.carets ≤ 8) (k : u.carets ≤ 8) :
    Calls Try.prog 38 #[.string t.str, .string u.str] w (Gives (ansV (lim (t.join u))) w) := by
  have hj := join_carets t u
  go_enter Try.func38, Try.ntmps38
  go_wp2_with fail
  refine (trees_yes t u _ h k).mono ?_; rintro e w1 ⟨b1, b2, hn1, hn2, hb1, rfl⟩
  go_wp2_with fail
  refine (join_any t u b1 b2 _ hn1 hn2).mono ?_; rintro e w2 ⟨b3, hn3, hb3, rfl⟩
  go_wp2_with fail
  refine (text_any (t.join u) b3 _ hn3 (by omega)).mono ?_; rintro e w3 ⟨rfl, n, rfl⟩
  go_wp2_with fail
  refine (limit_any (t.join u) _).mono ?_; rintro e w3 ⟨rfl, rfl⟩
  unfold ansV
  go_wp2_with fail
  go_ret2
  exact ⟨rfl, drewB (nx hb1 hb3) _⟩

theorem specCommonTree_no1 (s u : ByteArray) (w : World) (hs : s.size ≤ 9223372036854775806) (h : treeOf s = none) :
    Calls Try.prog 41 #[.string s, .string u] w (Gives (ansV none) w) := by
  have H := Lib.hid h
  clear h
  go_enter Try.func41, Try.ntmps41
  go_wp2_with fail
  refine (trIs_no s _ hs H.out).mono ?_; rintro e w1 ⟨rfl, rfl⟩
  go_wp2_with fail
  go_ret2
  exact ⟨rfl, Below.refl _ _⟩

theorem specCommonTree_no2 (t : Tr) (s : ByteArray) (w : World) (k : t.carets ≤ 8) (hs : s.size ≤ 9223372036854775806) (h : treeOf s = none) :
    Calls Try.prog 41 #[.string t.str, .string s] w (Gives (ansV none) w) := by
  have H := Lib.hid h
  clear h
  go_enter Try.func41, Try.ntmps41
  go_wp2_with fail
  refine (trIs_yes t _ k).mono ?_; rintro e w1 ⟨rfl, rfl⟩
  go_wp2_with fail
  refine (trIs_no s _ hs H.out).mono ?_; rintro e w1 ⟨rfl, rfl⟩
  go_wp2_with fail
  go_ret2
  exact ⟨rfl, Below.refl _ _⟩

theorem specCommonTree_yes (t u : Tr) (w : World) (h : t.carets ≤ 8) (k : u.carets ≤ 8) :
    Calls Try.prog 41 #[.string t.str, .string u.str] w (Gives (ansV (some (t.com u))) w) := by
  go_enter Try.func41, Try.ntmps41
  go_wp2_with fail
  refine (trIs_yes t _ h).mono ?_; rintro e w1 ⟨rfl, rfl⟩
  go_wp2_with fail
  refine (trIs_yes u _ k).mono ?_; rintro e w1 ⟨rfl, rfl⟩
  go_wp2_with fail
  refine (trCommon_any t u _ (by omega) (by omega)).mono ?_; rintro e w2 ⟨rfl, hb2⟩
  go_wp2_with fail
  go_ret2
  exact ⟨rfl, hb2⟩

theorem implCommonTree_no1 (s u : ByteArray) (w : World) (hs : s.size ≤ 9223372036854775806) (h : treeOf s = none) :
    Calls Try.prog 40 #[.string s, .string u] w (Gives (ansV none) w) := by
  have H := Lib.hid h
  clear h
  go_enter Try.func40, Try.ntmps40
  go_wp2_with fail
  refine (trees_no1 s u _ hs H.out).mono ?_; rintro e w1 ⟨hb1, rfl⟩
  go_wp2_with fail
  go_ret2
  exact ⟨rfl, hb1⟩

theorem implCommonTree_no2 (t : Tr) (s : ByteArray) (w : World) (k : t.carets ≤ 8) (hs : s.size ≤ 9223372036854775806) (h : treeOf s = none) :
    Calls Try.prog 40 #[.string t.str, .string s] w (Gives (ansV none) w) := by
  have H := Lib.hid h
  clear h
  go_enter Try.func40, Try.ntmps40
  go_wp2_with fail
  refine (trees_no2 t s _ k hs H.out).mono ?_; rintro e w1 ⟨hb1, rfl⟩
  go_wp2_with fail
  go_ret2
  exact ⟨rfl, hb1⟩

theorem implCommonTree_yes (t u : Tr) (w : World) (h : t.carets ≤ 8) (k : u.carets ≤ 8) :
    Calls Try.prog 40 #[.string t.str, .string u.str] w (Gives (ansV (some (t.com u))) w) := by
  have hj := com_carets t u
  go_enter Try.func40, Try.ntmps40
  go_wp2_with fail
  refine (trees_yes t u _ h k).mono ?_; rintro e w1 ⟨b1, b2, hn1, hn2, hb1, rfl⟩
  go_wp2_with fail
  refine (common_any t u b1 b2 _ hn1 hn2).mono ?_; rintro e w2 ⟨b3, hn3, hb3, rfl⟩
  go_wp2_with fail
  refine (text_any (t.com u) b3 _ hn3 (by omega)).mono ?_; rintro e w3 ⟨rfl, n, rfl⟩
  go_wp2_with fail
  go_ret2
  exact ⟨rfl, drewB (nx hb1 hb3) _⟩

/-- An answer of two bools. -/
def ansB (o : Option Bool) : Value := .tuple #[.bool (o == some true), .bool o.isSome]
theorem com_str (t u : Tr) : ((t.com u).str.toList == t.str.toList) = t.part u := by
  rw [Bool.eq_iff_iff, ← com_eq_part]
  simp only [Lib.toList_data, Tr.str_list, beq_iff_eq]
  constructor
  · intro h
    exact (Tr.text_inj (r := []) (q := []) (by rw [h])).1
  · intro h; rw [h]

theorem specIsPartOf_no1 (s u : ByteArray) (w : World) (hs : s.size ≤ 9223372036854775806) (h : treeOf s = none) :
    Calls Try.prog 44 #[.string s, .string u] w (Gives (ansB none) w) := by
  have H := Lib.hid h
  clear h
  go_enter Try.func44, Try.ntmps44
  go_wp2_with fail
  refine (trIs_no s _ hs H.out).mono ?_; rintro e w1 ⟨rfl, rfl⟩
  go_wp2_with fail
  go_ret2
  exact ⟨rfl, Below.refl _ _⟩

theorem specIsPartOf_no2 (t : Tr) (s : ByteArray) (w : World) (k : t.carets ≤ 8) (hs : s.size ≤ 9223372036854775806) (h : treeOf s = none) :
    Calls Try.prog 44 #[.string t.str, .string s] w (Gives (ansB none) w) := by
  have H := Lib.hid h
  clear h
  go_enter Try.func44, Try.ntmps44
  go_wp2_with fail
  refine (trIs_yes t _ k).mono ?_; rintro e w1 ⟨rfl, rfl⟩
  go_wp2_with fail
  refine (trIs_no s _ hs H.out).mono ?_; rintro e w1 ⟨rfl, rfl⟩
  go_wp2_with fail
  go_ret2
  exact ⟨rfl, Below.refl _ _⟩

theorem specIsPartOf_yes (t u : Tr) (w : World) (h : t.carets ≤ 8) (k : u.carets ≤ 8) :
    Calls Try.prog 44 #[.string t.str, .string u.str] w (Gives (ansB (some (t.part u))) w) := by
  go_enter Try.func44, Try.ntmps44
  go_wp2_with fail
  refine (trIs_yes t _ h).mono ?_; rintro e w1 ⟨rfl, rfl⟩
  go_wp2_with fail
  refine (trIs_yes u _ k).mono ?_; rintro e w1 ⟨rfl, rfl⟩
  go_wp2_with fail
  refine (trCommon_any t u _ (by omega) (by omega)).mono ?_; rintro e w2 ⟨rfl, hb2⟩
  go_wp2_with fail
  go_ret2
  exact ⟨by unfold ansB; rw [← com_str]; simp, hb2⟩

theorem implIsPartOf_no1 (s u : ByteArray) (w : World) (hs : s.size ≤ 9223372036854775806) (h : treeOf s = none) :
    Calls Try.prog 42 #[.string s, .string u] w (Gives (ansB none) w) := by
  have H := Lib.hid h
  clear h
  go_enter Try.func42, Try.ntmps42
  go_wp2_with fail
  refine (trees_no1 s u _ hs H.out).mono ?_; rintro e w1 ⟨hb1, rfl⟩
  go_wp2_with fail
  go_ret2
  exact ⟨rfl, hb1⟩

theorem implIsPartOf_no2 (t : Tr) (s : ByteArray) (w : World) (k : t.carets ≤ 8) (hs : s.size ≤ 9223372036854775806) (h : treeOf s = none) :
    Calls Try.prog 42 #[.string t.str, .string s] w (Gives (ansB none) w) := by
  have H := Lib.hid h
  clear h
  go_enter Try.func42, Try.ntmps42
  go_wp2_with fail
  refine (trees_no2 t s _ k hs H.out).mono ?_; rintro e w1 ⟨hb1, rfl⟩
  go_wp2_with fail
  go_ret2
  exact ⟨rfl, hb1⟩

theorem implIsPartOf_yes (t u : Tr) (w : World) (h : t.carets ≤ 8) (k : u.carets ≤ 8) :
    Calls Try.prog 42 #[.string t.str, .string u.str] w (Gives (ansB (some (t.part u))) w) := by
  go_enter Try.func42, Try.ntmps42
  go_wp2_with fail
  refine (trees_yes t u _ h k).mono ?_; rintro e w1 ⟨b1, b2, hn1, hn2, hb1, rfl⟩
  go_wp2_with fail
  refine (isPart_any t u b1 b2 _ hn1 hn2).mono ?_; rintro e w3 ⟨rfl, n, rfl⟩
  go_wp2_with fail
  go_ret2
  exact ⟨by unfold ansB; simp, drewB hb1 _⟩

end Go.Proofs.Ytdpfoeknphiheaa
