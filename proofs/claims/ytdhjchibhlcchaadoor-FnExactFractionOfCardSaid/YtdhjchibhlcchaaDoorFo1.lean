/- Walks: spec.mpBits, impl.isAddress. -/
import Derived.Test.YtdhjchibhlcchaaDoorFoP
import Derived.Test.YtdhjchibhlcchaaDoorBase
import Derived.Test.YtdhjchibhlcchaaDoorQuiet
import Derived.Test.YtdhjchibhlcchaaDoorShelfTrim
namespace Go.Proofs.YtdhjchibhlcchaaDoor
open Go.RowKit

theorem nat_at (a : ByteArray) (k : Nat) (h : k < a.size) : (a.data.toList[k]'h) = (a[k]'h) := by cases a; simp; rfl
theorem all_take (a : ByteArray) (k : Nat) (h : k < a.size) : (a.data.toList.take (k + 1)).all isBit = ((a.data.toList.take k).all isBit && isBit (a[k]'h)) := by
  have hk' : k < a.data.toList.length := h
  rw [List.take_succ_eq_append_getElem hk', List.all_append, nat_at a k h]
  simp
theorem not_bit (a : ByteArray) (k : Nat) (h : k < a.size) (hb : isBit (a[k]'h) = false) : a.data.toList.all isBit = false := by
  rw [Bool.eq_false_iff]
  intro h1
  rw [List.all_eq_true] at h1
  have := h1 (a.data.toList[k]'h) (List.getElem_mem _)
  rw [nat_at, hb] at this
  cases this
set_option maxRecDepth 100000 in
set_option maxHeartbeats 2000000 in
theorem mpBits_any (a : ByteArray) (w : World) :
    Calls Tryd.prog 15 #[.string a] w fun e w' => e = .returned (.bool (isAd a)) ∧ w = w' := by
  by_cases h10 : 10 < a.size
  · rw [show isAd a = false by rw [Bool.eq_false_iff, ne_eq, isAd_iff]; omega]
    have h10' : (10 : Int) < (a.size : Int) := by omega
    go_enter Tryd.func15, Tryd.ntmps15
    go_wp2_with fail
    go_ret
    exact ⟨rfl, rfl⟩
  · have h10' : ¬ (10 : Int) < (a.size : Int) := by omega
    rw [show isAd a = a.data.toList.all isBit by rw [Bool.eq_iff_iff, isAd_iff]; exact ⟨fun h => h.2, fun h => ⟨by omega, h⟩⟩]
    obtain ⟨R, hR⟩ : ∃ R, R = a.data.toList.all isBit := ⟨_, rfl⟩
    rw [← hR]
    have HR := Lib.hid hR
    clear hR
    go_enter Tryd.func15, Tryd.ntmps15
    go_wp2_with fail
    go_loop [3] (fun i => ∃ k : Nat, k ≤ a.size ∧ i = .int .i64 k ∧ Hid ((a.data.toList.take k).all isBit = true)) (fun i => a.size - (intOf i).toNat)
    case atStart => exact ⟨0, Nat.zero_le _, rfl, Lib.hid (by simp)⟩
    case round =>
      obtain ⟨k, hk, rfl, hall⟩ := hrel
      by_cases hlt : k < a.size
      · have hlt' : (k : Int) < (a.size : Int) := by omega
        have ht := all_take a k hlt
        rw [hall.out, Bool.true_and] at ht
        have hnb := not_bit a k hlt
        rw [← HR.out] at hnb
        have hbi : isBit (a[k]'hlt) = true ↔ (a[k]'hlt).toNat = 48 ∨ (a[k]'hlt).toNat = 49 := by
          rw [isBit_iff]; simp [← UInt8.toNat_inj]
        by_cases c48 : (a[k]'hlt).toNat = 48
        · have HT : Hid ((a.data.toList.take (k + 1)).all isBit = true) := Lib.hid (by rw [ht]; exact hbi.2 (.inl c48))
          have hv : (((a[k]'hlt).toNat : Nat) : Int) = 48 := by omega
          clear ht hnb hbi hall
          go_wp2_with fail
          go_round
          case rel => exact ⟨k + 1, by omega, by go_num, HT⟩
          case measure => simp [intOf]; omega
        · have hv1 : ((((a[k]'hlt).toNat : Nat) : Int) != 48) = true := by simp; omega
          by_cases c49 : (a[k]'hlt).toNat = 49
          · have HT : Hid ((a.data.toList.take (k + 1)).all isBit = true) := Lib.hid (by rw [ht]; exact hbi.2 (.inr c49))
            have hv : (((a[k]'hlt).toNat : Nat) : Int) = 49 := by omega
            clear ht hnb hbi hall hv1
            go_wp2_with fail
            go_round
            case rel => exact ⟨k + 1, by omega, by go_num, HT⟩
            case measure => simp [intOf]; omega
          · have hv2 : ((((a[k]'hlt).toNat : Nat) : Int) != 49) = true := by simp; omega
            have hr := hnb (by rw [Bool.eq_false_iff, ne_eq, hbi]; omega)
            clear ht hnb hbi hall
            subst hr
            go_wp2_with fail
            go_ret
            exact ⟨rfl, rfl⟩
      · obtain rfl : k = a.size := by omega
        have hr : R = true := by
          rw [HR.out, ← hall.out]
          congr 1
          exact (List.take_of_length_le (Nat.le_refl _)).symm
        subst hr
        go_wp2_with fail
        go_ret
        exact ⟨rfl, rfl⟩

set_option maxRecDepth 100000 in
set_option maxHeartbeats 2000000 in
theorem isAddress_any (a : ByteArray) (w : World) (ha : a.size ≤ 9223372036854775806) :
    Calls Tryd.prog 17 #[.string a] w (Gives (.bool (isAd a)) w) := by
  by_cases h10 : 10 < a.size
  · rw [show isAd a = false by rw [Bool.eq_false_iff, ne_eq, isAd_iff]; omega]
    have h10' : ¬ (a.size : Int) ≤ 10 := by omega
    go_enter Tryd.func17, Tryd.ntmps17
    go_wp2_with fail
    go_ret
    exact ⟨rfl, Below.refl _ _⟩
  · have h10' : (a.size : Int) ≤ 10 := by omega
    have hT : ∀ w, Calls Tryd.prog 34 #[.string a, .string ⟨#[48, 49]⟩] w fun e w' => e = .returned (.string ⟨(Lib.trimS a.data.toList [48, 49]).toArray⟩) ∧ Below w.heap.size w w' := fun w =>
      Any.strings_Trim_laid Tryd.lays160 (by kernel_rfl) a ⟨#[48, 49]⟩ w (by omega) (by decide) (ascii_of_all (by decide))
    have he : isAd a = (⟨(Lib.trimS a.data.toList [48, 49]).toArray⟩ : ByteArray).toList.isEmpty := by
      rw [Lib.toList_data, Bool.eq_iff_iff, isAd_iff, List.isEmpty_iff]
      show _ ↔ (Lib.trimS a.data.toList [48, 49]).toArray.toList = []
      rw [List.toList_toArray, trim_empty]
      exact ⟨fun h => h.2, fun h => ⟨by omega, h⟩⟩
    rw [he]
    generalize (⟨(Lib.trimS a.data.toList [48, 49]).toArray⟩ : ByteArray) = r at *
    clear he h10
    go_enter Tryd.func17, Tryd.ntmps17
    go_wp2_with fail
    refine (hT _).mono ?_; rintro e w1 ⟨rfl, hb1⟩
    go_wp2_with fail
    go_ret
    exact ⟨rfl, hb1⟩
end Go.Proofs.YtdhjchibhlcchaaDoor
