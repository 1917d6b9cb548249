/- Walks: strings.CutPrefix with a prefix of one byte. -/
import Derived.Test.YtllnfbenaeeloacBase
import Derived.Test.YtllnfbenaeeloacTr
namespace Go.Proofs.Ytllnfbenaeeloac
open Go.RowKit


theorem hasPrefix_one (s : ByteArray) (c : UInt8) (w : World) (hs : s.size ≤ 9223372036854775806) :
    Calls Try.prog 25 #[.string s, .string ⟨#[c]⟩] w fun e w' => e = .returned (.bool (s.data.toList.head? == some c)) ∧ w = w' := by
  by_cases h : 1 ≤ s.size
  all_goals
    go_enter Try.func25, Try.ntmps25
    go_wp2
    go_ret
  · refine ⟨ret_bool ?_, rfl⟩
    rw [Lib.extract_toList]
    cases hl : s.data.toList <;> simp
  · refine ⟨ret_bool ?_, rfl⟩
    have : s.data.toList.length = 0 := by rw [← Lib.size_eq]; omega
    rw [List.length_eq_zero_iff.1 this]
    rfl

def CutOk (s : ByteArray) (r : List UInt8) (w : World) (e : Ending) (w' : World) : Prop :=
  ∃ s' : ByteArray, s'.data.toList = r ∧ s'.size < s.size ∧ e = .returned (.tuple #[.string s', .bool true]) ∧ w = w'

theorem stringsliteCut_yes (s : ByteArray) (c : UInt8) (r : List UInt8) (w : World) (hs : s.size ≤ 9223372036854775806) (h : s.data.toList = c :: r) :
    Calls Try.prog 24 #[.string s, .string ⟨#[c]⟩] w (CutOk s r w) := by
  have hz : 1 ≤ s.size := by rw [Lib.size_eq, h]; simp
  have hb : (s.data.toList.head? == some c) = true := by simp [h]
  have H := Lib.hid h
  clear h
  go_enter Try.func24, Try.ntmps24
  go_wp2_with (go_at_call 25; refine (hasPrefix_one s c _ hs).mono ?_; rintro e w' ⟨rfl, rfl⟩)
  go_ret2
  refine ⟨_, ?_, ?_, rfl, rfl⟩
  · rw [Lib.extract_data, H.out, List.take_of_length_le]
    · rfl
    · rw [Lib.size_eq, H.out]; simp
  · rw [Lib.size_eq, Lib.extract_data, Lib.size_eq, H.out]; simp

theorem stringsliteCut_no (s : ByteArray) (c : UInt8) (w : World) (hs : s.size ≤ 9223372036854775806) (h : (s.data.toList.head? == some c) = false) :
    Calls Try.prog 24 #[.string s, .string ⟨#[c]⟩] w fun e w' => e = .returned (.tuple #[.string s, .bool false]) ∧ w = w' := by
  go_enter Try.func24, Try.ntmps24
  go_wp2_with (go_at_call 25; refine (hasPrefix_one s c _ hs).mono ?_; rintro e w' ⟨rfl, rfl⟩)
  go_ret2
  exact ⟨rfl, rfl⟩

theorem cut_yes (s : ByteArray) (c : UInt8) (r : List UInt8) (w : World) (hs : s.size ≤ 9223372036854775806) (h : s.data.toList = c :: r) :
    Calls Try.prog 23 #[.string s, .string ⟨#[c]⟩] w (CutOk s r w) := by
  have H := Lib.hid h
  clear h
  go_enter Try.func23, Try.ntmps23
  go_wp2_with (go_at_call 24; refine (stringsliteCut_yes s c r _ hs H.out).mono ?_; rintro e w' ⟨s', h1, h2, rfl, rfl⟩; have H1 := Lib.hid h1; clear h1)
  go_ret2
  exact ⟨_, H1.out, h2, rfl, rfl⟩

theorem cut_no (s : ByteArray) (c : UInt8) (w : World) (hs : s.size ≤ 9223372036854775806) (h : (s.data.toList.head? == some c) = false) :
    Calls Try.prog 23 #[.string s, .string ⟨#[c]⟩] w fun e w' => e = .returned (.tuple #[.string s, .bool false]) ∧ w = w' := by
  go_enter Try.func23, Try.ntmps23
  go_wp2_with (go_at_call 24; refine (stringsliteCut_no s c _ hs h).mono ?_; rintro e w' ⟨rfl, rfl⟩)
  go_ret2
  exact ⟨rfl, rfl⟩
end Go.Proofs.Ytllnfbenaeeloac
