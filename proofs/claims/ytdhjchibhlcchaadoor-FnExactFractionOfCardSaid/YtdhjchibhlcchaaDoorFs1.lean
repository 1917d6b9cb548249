/- Walks: impl.widthOf, startOf; spec.mpOf. -/
import Derived.Test.YtdhjchibhlcchaaDoorFr2
import Derived.Test.YtdhjchibhlcchaaDoorFrV
import Derived.Test.YtdhjchibhlcchaaDoorAdP
import Derived.Test.YtdhjchibhlcchaaDoorQuiet
namespace Go.Proofs.YtdhjchibhlcchaaDoor
open Go.RowKit

set_option maxHeartbeats 2000000 in
theorem widthOf_any (k : Nat) (w : World) (h : k ≤ 10) :
    Calls Tryd.prog 36 #[.int .i64 k] w fun e w' => e = .returned (.int .i64 ((2 ^ (20 - k) : Nat) : Int)) ∧ w = w' := by
  rcases small_cases h with e | e | e | e | e | e | e | e | e | e | e <;>
    (subst e
     go_enter Tryd.func36, Tryd.ntmps36
     go_wp2_with fail
     go_ret
     exact ⟨rfl, rfl⟩)

theorem getD_at {l : List UInt8} {k : Nat} (h : k < l.length) : l.getD k 0 = l[k]'h := by simp [h]
/-- What letters make so far. -/
theorem start_steps {a : ByteArray} (h : a.size ≤ 10) (hb : a.data.toList.all isBit = true) :
    ∃ P : Nat → Nat, P 0 = 0 ∧ P a.size = stA a ∧ (∀ k, k ≤ a.size → P k ≤ 1048576) ∧ ∀ k (hk : k < a.size), ((a[k]'hk).toNat = 48 ∧ P (k + 1) = P k) ∨ ((a[k]'hk).toNat = 49 ∧ P (k + 1) = P k + 2 ^ (20 - (k + 1))) := by
  refine ⟨fun k => numA (a.data.toList.take k) * 2 ^ (20 - k), by simp [numA], ?_, ?_, ?_⟩
  · show numA (a.data.toList.take a.data.toList.length) * _ = _
    rw [List.take_length]; rfl
  · intro k hk
    have hk' : k ≤ a.data.toList.length := hk
    have h1 := numA_lt k (a.data.toList.take k) (by rw [List.length_take]; omega) (by rw [List.all_eq_true] at hb ⊢; exact fun x hx => hb x (List.mem_of_mem_take hx))
    show numA (a.data.toList.take k) * 2 ^ (20 - k) ≤ 1048576
    have h2 := Nat.mul_le_mul_right (2 ^ (20 - k)) (Nat.le_of_lt h1)
    rw [← Nat.pow_add, show k + (20 - k) = 20 by omega] at h2
    exact h2
  · intro k hk
    have hk' : k < a.data.toList.length := hk
    have e : (a[k]'hk) = a.data.toList[k]'hk' := by cases a; simp; rfl
    have hbk := isBit_nat ((List.all_eq_true.1 hb) _ (List.getElem_mem hk'))
    have eg : (a.data.toList.getD k 0) = a.data.toList[k]'hk' := getD_at hk'
    have hp : 2 ^ (20 - k) = 2 * 2 ^ (20 - (k + 1)) := by
      rw [show 20 - k = (20 - (k + 1)) + 1 by omega, Nat.pow_succ]; omega
    have hn := numA_take hk'
    rw [eg] at hn
    rw [e]
    show _ ∨ (_ ∧ numA (a.data.toList.take (k + 1)) * 2 ^ (20 - (k + 1)) = numA (a.data.toList.take k) * 2 ^ (20 - k) + 2 ^ (20 - (k + 1)))
    rcases hbk with hb' | hb'
    · left
      refine ⟨hb', ?_⟩
      show numA (a.data.toList.take (k + 1)) * 2 ^ (20 - (k + 1)) = numA (a.data.toList.take k) * 2 ^ (20 - k)
      rw [hn, hb', hp, Nat.sub_self, Nat.add_zero]
      ac_rfl
    · right
      refine ⟨hb', ?_⟩
      rw [hn, hb', hp, show 49 - 48 = 1 by rfl, Nat.add_mul, Nat.one_mul]
      congr 1
      ac_rfl

set_option maxHeartbeats 2000000 in
theorem startOf_any (a : ByteArray) (w : World) (h : a.size ≤ 10) (hb : a.data.toList.all isBit = true) :
    Calls Tryd.prog 19 #[.string a] w (Gives (.int .i64 (stA a)) w) := by
  obtain ⟨P, h0, h1, h2, h3⟩ := start_steps h hb
  rw [← h1]
  have H3 := Lib.hid h3
  have H2 := Lib.hid h2
  have H0 := Lib.hid h0
  clear h0 h1 h2 h3 hb
  go_enter Tryd.func19, Tryd.ntmps19
  go_wp2_with fail
  go_loopw [3, 7] (fun s i wr => ∃ k : Nat, k ≤ a.size ∧ i = .int .i64 k ∧ s = .int .i64 (P k) ∧ Below w.heap.size w wr) (fun _ i _ => a.size - (intOf i).toNat)
  case atStart => exact ⟨0, Nat.zero_le _, rfl, by rw [H0.out]; rfl, Below.refl _ _⟩
  case round =>
    obtain ⟨k, hk, rfl, rfl, hbw⟩ := hrel
    by_cases hlt : k < a.size
    · have hW := fun w => widthOf_any (k + 1) w (by omega)
      have hp := H2.out (k + 1) (by omega)
      have hq := H2.out k hk
      have h4 := H3.out k hlt
      have i1 : (((k + 1 : Nat) : Nat) : Int) = (k : Int) + 1 := by omega
      rw [i1] at hW
      have hq9 : (2 : Nat) ^ (20 - (k + 1)) ≤ 2 ^ 20 := Nat.pow_le_pow_right (by omega) (by omega)
      generalize hqq : (2 : Nat) ^ (20 - (k + 1)) = q at *
      clear i1 hqq
      rcases h4 with ⟨hx, hp'⟩ | ⟨hx, hp'⟩
      · skip
        have hv : (((a[k]'hlt).toNat : Nat) : Int) = 48 := by omega
        have HP := Lib.hid hp'
        clear hx hp'
        go_wp2_with fail
        go_quiet ((go_at_call 36; with_reducible exact quiet_eq (hW _)))
        go_wp2_with fail
        go_roundw
        case rel => exact ⟨k + 1, by omega, by go_num, (by first | (rw [HP.out]; done) | (rw [HP.out]; go_num)), drewB hbw _⟩
        case measure => simp [intOf]; omega
      · skip
        have hv : (((a[k]'hlt).toNat : Nat) : Int) = 49 := by omega
        have HP := Lib.hid hp'
        clear hx hp'
        go_wp2_with fail
        go_quiet ((go_at_call 36; with_reducible exact quiet_eq (hW _)))
        go_wp2_with fail
        go_roundw
        case rel => exact ⟨k + 1, by omega, by go_num, (by first | (rw [HP.out]; done) | (rw [HP.out]; go_num)), drewB hbw _⟩
        case measure => simp [intOf]; omega
    · obtain rfl : k = a.size := by omega
      go_wp2_with fail
      go_ret
      exact ⟨rfl, hbw⟩
end Go.Proofs.YtdhjchibhlcchaaDoor
