/- Walks: strings.TrimRight, strings.Contains at the letter 0; impl.exponentOf. -/
import Derived.Test.YtkoebmdocenlkabDoorBase
import Derived.Test.YtkoebmdocenlkabDoorWayP
import Derived.Lib.Bytealg
namespace Go.Proofs.YtkoebmdocenlkabDoor
open Go.RowKit

/-! Texts without their last zeros. -/
theorem zerosR_other (l : List UInt8) (c : UInt8) (h : c ≠ 48) : zerosR (l ++ [c]) = 0 := by simp [zerosR, h]
theorem topL_other (l : List UInt8) (c : UInt8) (h : c ≠ 48) : topL (l ++ [c]) = l ++ [c] := by
  unfold topL
  rw [zerosR_other l c h, Nat.sub_zero, List.take_length]
def topB (u : ByteArray) : ByteArray := ⟨(topL u.data.toList).toArray⟩
theorem topB_nil (u : ByteArray) (h : u.size = 0) : topB u = u := by
  have : u.data.toList = [] := List.length_eq_zero_iff.1 (by rw [← Lib.size_eq]; exact h)
  unfold topB
  rw [this]
  refine ba_ext ?_
  rw [this]
  rfl
theorem last_split (u : ByteArray) (n : Nat) (h : u.size = n + 1) (hlt : n < u.size) : u.data.toList = (u.extract 0 n).data.toList ++ [u[n]'hlt] := by
  rw [Lib.extract_data, List.drop_zero, Nat.sub_zero]
  have hl : u.data.toList.length = n + 1 := by rw [← Lib.size_eq]; exact h
  have hn : n < u.data.toList.length := by omega
  have e : u[n]'hlt = u.data.toList[n]'hn := rfl
  rw [e, List.take_append_getElem hn]
  exact (List.take_of_length_le (by omega)).symm
theorem topB_zero (u : ByteArray) (n : Nat) (h : u.size = n + 1) (hlt : n < u.size) (hc : u[n]'hlt = 48) : topB (u.extract 0 n) = topB u := by
  unfold topB
  rw [last_split u n h hlt, hc, topL_zero]
theorem topB_other (u : ByteArray) (n : Nat) (h : u.size = n + 1) (hlt : n < u.size) (hc : u[n]'hlt ≠ 48) : topB u = u := by
  have e := last_split u n h hlt
  unfold topB
  rw [e, topL_other _ _ hc, ← e]
theorem extract_size0 (u : ByteArray) (n : Nat) (h : n ≤ u.size) : (u.extract 0 n).size = n := by simp; omega

set_option maxRecDepth 100000 in
set_option maxHeartbeats 1000000 in
theorem trimRightByte_any (s : ByteArray) (w : World) (hs : s.size ≤ 9223372036854775806) :
    Calls Tryd.prog 103 #[.string s, .int .u8 48] w fun e w' => e = .returned (.string (topB s)) ∧ w' = w := by
  go_enter Tryd.func103, Tryd.ntmps103
  go_wp2_with fail
  go_loopw [0] (fun p wr => ∃ u : ByteArray, p = .string u ∧ u.size ≤ s.size ∧ Hid (topB u = topB s) ∧ wr = w) (fun p _ => (match p with | .string u => u.size | _ => 0))
  case atStart => exact ⟨s, rfl, Nat.le_refl _, rfl, rfl⟩
  case round =>
    obtain ⟨u, rfl, hu, he, rfl⟩ := hrel
    rcases Nat.eq_zero_or_pos u.size with h0 | h0
    · have HT : Hid (topB s = u) := by show topB s = u; rw [← he.out, topB_nil u h0]
      clear he
      go_wp2_with fail
      go_ret
      exact ⟨by rw [HT.out]; rfl, rfl⟩
    · obtain ⟨n, hn⟩ : ∃ n, u.size = n + 1 := ⟨u.size - 1, by omega⟩
      have hlt : n < u.size := by omega
      by_cases hc : u[n]'hlt = 48
      · have HT : Hid (topB (u.extract 0 n) = topB s) := by show _ = _; rw [topB_zero u n hn hlt hc, he.out]
        have H1 : Hid (((((u[n]'hlt).toNat : Nat) : Int) == 48) = true) := by show (_ == _) = true; rw [hc]; rfl
        have hsz := extract_size0 u n (by omega)
        clear he hc
        go_wp2_with fail
        · go_roundw
          case rel => exact ⟨_, rfl, by omega, HT, trivial⟩
          case measure => show (u.extract 0 n).size < u.size; omega
        · exact absurd (H1.out.symm.trans (by assumption)) (by decide)
      · have HT : Hid (topB s = u) := by show topB s = u; rw [← he.out, topB_other u n hn hlt hc]
        have H1 : Hid (((((u[n]'hlt).toNat : Nat) : Int) == 48) = false) := by
          show (_ == _) = false
          rw [beq_eq_false_iff_ne]
          intro h
          exact hc (UInt8.toNat_inj.1 (by have : (48 : UInt8).toNat = 48 := rfl; omega))
        clear he hc
        go_wp2_with fail
        · exact absurd (H1.out.symm.trans (by assumption)) (by decide)
        · go_ret
          exact ⟨by rw [HT.out]; rfl, rfl⟩

set_option maxRecDepth 100000 in
set_option maxHeartbeats 1000000 in
theorem trimRight0_any (s : ByteArray) (w : World) (hs : s.size ≤ 9223372036854775806) :
    Calls Tryd.prog 82 #[.string s, .string ⟨#[48]⟩] w fun e w' => e = .returned (.string (topB s)) ∧ w' = w := by
  have hT := fun w => trimRightByte_any s w hs
  have gz : ((⟨#[48]⟩ : ByteArray)[0]'(by decide)).toNat = 48 := rfl
  rcases Nat.eq_zero_or_pos s.size with h0 | h0
  · rw [topB_nil s h0]
    clear hT
    have e0 : s = ⟨#[]⟩ := ba_ext (List.length_eq_zero_iff.1 (by rw [← Lib.size_eq]; exact h0))
    subst e0
    go_enter Tryd.func82, Tryd.ntmps82
    go_wp2_with fail
    go_ret
    exact ⟨rfl, rfl⟩
  · have he : s.toList.isEmpty = false := by
      rw [Lib.toList_data]
      have h1 : 0 < s.data.toList.length := by rw [← Lib.size_eq]; exact h0
      cases hl : s.data.toList with
      | nil => rw [hl] at h1; simp at h1
      | cons a l => rfl
    clear h0
    go_enter Tryd.func82, Tryd.ntmps82
    go_wp2_with fail
    refine (hT _).mono ?_; rintro e w1 ⟨rfl, rfl⟩
    go_wp2_with fail
    go_ret
    exact ⟨rfl, rfl⟩

/-- The index of the first byte c from an index on. -/
def idx0 (s : ByteArray) (c : UInt8) : Int := Lib.indexByte s.data.toList c
theorem idx0_neg (l : List UInt8) (c : UInt8) : (Lib.indexByte l c = -1 ∧ ¬ c ∈ l) ∨ (0 ≤ Lib.indexByte l c ∧ c ∈ l) := by
  induction l with
  | nil => exact .inl ⟨rfl, by simp⟩
  | cons a l ih =>
    unfold Lib.indexByte
    by_cases h : (a == c) = true
    · rw [if_pos h]
      have : a = c := by simpa using h
      exact .inr ⟨by omega, by simp [this]⟩
    · rw [if_neg h]
      have hne : a ≠ c := by simpa using h
      rcases ih with ⟨h1, h2⟩ | ⟨h1, h2⟩
      · exact .inl ⟨by rw [h1]; rfl, by simp [h2, Ne.symm hne]⟩
      · right
        have : (Lib.indexByte l c == -1) = false := by rw [beq_eq_false_iff_ne]; omega
        simp only [this]
        exact ⟨by simp; omega, by simp [h2]⟩

set_option maxRecDepth 100000 in
set_option maxHeartbeats 1000000 in
theorem indexByte0_any (s : ByteArray) (c : UInt8) (w : World) :
    Calls Tryd.prog 111 #[.string s, .int .u8 c.toNat] w fun e w' => e = .returned (.int .i64 (idx0 s c)) ∧ w = w' := by
  go_enter Tryd.func111, Tryd.ntmps111
  go_wp2
  rw [run_callFunc_extern Tryd.func127 (by kernel_rfl) (by kernel_rfl) (by kernel_rfl) (e := Extern.BytealgIndexByte.indexByte) (by kernel_rfl), Lib.run_indexByteString]
  simp only [Result.andThen]
  rw [Oper.upon_value]
  go_wp2
  go_ret
  refine ⟨ret_int ?_, rfl⟩
  unfold idx0
  simp

set_option maxRecDepth 100000 in
set_option maxHeartbeats 1000000 in
theorem index48_any (s : ByteArray) (w : World) :
    Calls Tryd.prog 92 #[.string s, .string ⟨#[48]⟩] w fun e w' => e = .returned (.int .i64 (idx0 s 48)) ∧ w = w' := by
  have hI := fun w => indexByte0_any s 48 w
  have gz : ((⟨#[48]⟩ : ByteArray)[0]'(by decide)).toNat = 48 := rfl
  have ez : ((48 : UInt8).toNat : Int) = 48 := rfl
  rw [ez] at hI
  cases hq : ([48] == s.toList) with
  | true =>
    have h0 : idx0 s 48 = 0 := by
      unfold idx0
      rw [← Lib.toList_data, ← (beq_iff_eq.1 hq)]
      rfl
    rw [h0]
    clear hI h0 ez
    go_enter Tryd.func92, Tryd.ntmps92
    go_wp2_with fail
    go_ret
    exact ⟨rfl, rfl⟩
  | false =>
    generalize idx0 s 48 = z at *
    clear ez
    go_enter Tryd.func92, Tryd.ntmps92
    go_wp2_with fail
    refine (hI _).mono ?_; rintro e w1 ⟨rfl, rfl⟩
    go_wp2_with fail
    go_ret
    exact ⟨rfl, rfl⟩

theorem index0_any (s : ByteArray) (w : World) :
    Calls Tryd.prog 69 #[.string s, .string ⟨#[48]⟩] w fun e w' => e = .returned (.int .i64 (idx0 s 48)) ∧ w = w' := by
  have hI := fun w => index48_any s w
  generalize idx0 s 48 = z at *
  go_enter Tryd.func69, Tryd.ntmps69
  go_wp2_with fail
  refine (hI _).mono ?_; rintro e w1 ⟨rfl, rfl⟩
  go_wp2_with fail
  go_ret
  exact ⟨rfl, rfl⟩
theorem contains0_any (s : ByteArray) (w : World) :
    Calls Tryd.prog 83 #[.string s, .string ⟨#[48]⟩] w fun e w' => e = .returned (.bool (decide ((48 : UInt8) ∈ s.data.toList))) ∧ w = w' := by
  have hI := fun w => index0_any s w
  have hs := idx0_neg s.data.toList 48
  rw [show Lib.indexByte s.data.toList 48 = idx0 s 48 from rfl] at hs
  generalize idx0 s 48 = z at *
  rcases hs with ⟨rfl, h⟩ | ⟨h1, h⟩
  · rw [decide_eq_false h]
    clear h
    go_enter Tryd.func83, Tryd.ntmps83
    go_wp2_with fail
    refine (hI _).mono ?_; rintro e w1 ⟨rfl, rfl⟩
    go_wp2_with fail
    go_ret
    exact ⟨rfl, rfl⟩
  · rw [decide_eq_true h]
    clear h
    go_enter Tryd.func83, Tryd.ntmps83
    go_wp2_with fail
    refine (hI _).mono ?_; rintro e w1 ⟨rfl, rfl⟩
    go_wp2_with fail
    go_ret
    exact ⟨rfl, rfl⟩

theorem topB_list (s : ByteArray) : (topB s).data.toList = topL s.data.toList := by simp [topB]
theorem topB_size (s : ByteArray) : (topB s).size + zerosR s.data.toList = s.size := by
  have := zerosR_le s.data.toList
  rw [Lib.size_eq, topB_list, Lib.size_eq]
  unfold topL
  rw [List.length_take]
  omega

set_option maxRecDepth 100000 in
set_option maxHeartbeats 1000000 in
theorem exponentOf_any (s : ByteArray) (w : World) (hs : s.size ≤ 9223372036854775806) :
    Calls Tryd.prog 59 #[.string s] w fun e w' => e = .returned (.int .i64 (expoL s.data.toList : Nat)) ∧ w = w' := by
  have hT := fun w => trimRight0_any s w hs
  have hC := fun w => contains0_any (topB s) w
  have hz := topB_size s
  rw [topB_list] at hC
  unfold expoL
  generalize topB s = T at *
  generalize zerosR s.data.toList = z at *
  by_cases h1 : 0 < z
  · by_cases h2 : (48 : UInt8) ∈ topL s.data.toList
    · rw [if_neg (by simp [h2])]
      rw [decide_eq_true h2] at hC
      clear h2
      go_enter Tryd.func59, Tryd.ntmps59
      go_wp2_with fail
      refine (hT _).mono ?_; rintro e w1 ⟨rfl, rfl⟩
      go_wp2_with fail
      refine (hC _).mono ?_; rintro e w1 ⟨rfl, rfl⟩
      go_wp2_with fail
      go_ret
      exact ⟨ret_int (by omega), rfl⟩
    · rw [if_pos ⟨h1, h2⟩]
      rw [decide_eq_false h2] at hC
      clear h2
      go_enter Tryd.func59, Tryd.ntmps59
      go_wp2_with fail
      refine (hT _).mono ?_; rintro e w1 ⟨rfl, rfl⟩
      go_wp2_with fail
      refine (hC _).mono ?_; rintro e w1 ⟨rfl, rfl⟩
      go_wp2_with fail
      go_ret
      exact ⟨ret_int (by omega), rfl⟩
  · rw [if_neg (by simp [h1])]
    clear hC
    go_enter Tryd.func59, Tryd.ntmps59
    go_wp2_with fail
    refine (hT _).mono ?_; rintro e w1 ⟨rfl, rfl⟩
    go_wp2_with fail
    go_ret
    exact ⟨ret_int (by omega), rfl⟩
end Go.Proofs.YtkoebmdocenlkabDoor
