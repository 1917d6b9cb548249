/- Walks: CountForests of both sides; the law. -/
import Derived.Test.YtbeailflcinilabCountT
import Derived.Test.YtbeailflcinilabForP
namespace Go.Proofs.Ytbeailflcinilab
open Go.RowKit

theorem sumN_le {f : Nat → Nat} : ∀ {k m : Nat}, k ≤ m → sumN f k ≤ sumN f m := by
  intro k m h
  induction m with
  | zero => have : k = 0 := by omega
            subst this; exact Nat.le_refl _
  | succ m ih =>
    by_cases e : k = m + 1
    · rw [e]; exact Nat.le_refl _
    · rw [sumN]; exact Nat.le_trans (ih (by omega)) (Nat.le_add_right _ _)

set_option maxRecDepth 100000 in
set_option maxHeartbeats 1000000 in
theorem prForests_any (t : Nat) : ∀ (c : Nat) (w : World), t ≤ 9 → c ≤ 8 →
    Calls Try.prog 80 #[.int .i64 t, .int .i64 c] w fun e w' => e = .returned (.int .i64 (forN t c)) ∧ w = w' := by
  induction t with
  | zero =>
    intro c w ht hc
    by_cases h : c = 0
    · subst h
      go_enter Try.func80, Try.ntmps80
      go_wp2_with fail
      go_ret
      exact ⟨rfl, rfl⟩
    · have hc0 : ((c : Int) == 0) = false := by rw [beq_eq_false_iff_ne]; omega
      have hf : Hid (forN 0 c = 0) := by show _ = _; rw [forN, if_neg h]
      clear h
      go_enter Try.func80, Try.ntmps80
      go_wp2_with fail
      go_ret
      exact ⟨ret_int (by rw [hf.out]; rfl), rfl⟩
  | succ t ih =>
    intro c w ht hc
    have hb := forN_zero (t + 1) c hc ht
    have hf : Hid (forN (t + 1) c = sumN (fun k => catN k * forN t (c - k)) (c + 1)) := rfl
    have ht0 : (((t + 1 : Nat) : Int) == 0) = false := by rw [beq_eq_false_iff_ne]; omega
    have e1 : ((t + 1 : Nat) : Int) = (t : Int) + 1 := by omega
    rw [e1] at ht0 ⊢
    have ih' := fun c w h => ih c w (by omega) h
    clear ih e1
    go_enter Try.func80, Try.ntmps80
    go_wp2_with fail
    go_loop [5, 6] (fun s k => ∃ i : Nat, i ≤ c + 1 ∧ k = .int .i64 i ∧ s = .int .i64 (sumN (fun k => catN k * forN t (c - k)) i)) (fun _ k => c + 1 - (intOf k).toNat)
    case atStart => exact ⟨0, Nat.zero_le _, rfl, rfl⟩
    case round =>
      obtain ⟨i, hi, rfl, rfl⟩ := hrel
      by_cases hlt : (i : Int) ≤ c
      · have hs1 : sumN (fun k => catN k * forN t (c - k)) (i + 1) ≤ 1000000 := by
          have := sumN_le (f := fun k => catN k * forN t (c - k)) (show i + 1 ≤ c + 1 by omega)
          have h2 := hf.out
          omega
        have hs2 : sumN (fun k => catN k * forN t (c - k)) (i + 1) = sumN (fun k => catN k * forN t (c - k)) i + catN i * forN t (c - i) := rfl
        have C := fun w => trCount_any i w (by omega)
        have R := fun w => ih' (c - i) w (by omega)
        have e2 : ((c - i : Nat) : Int) = (c : Int) - i := by omega
        rw [e2] at R
        have hc9 := catN_bd i (by omega)
        have hr9 := forN_zero t (c - i) (by omega) (by omega)
        generalize sumN (fun k => catN k * forN t (c - k)) i = S0 at *
        generalize hS1 : sumN (fun k => catN k * forN t (c - k)) (i + 1) = S1 at *
        have HS1 := Lib.hid hS1
        generalize hCA : catN i = a at *
        generalize hFO : forN t (c - i) = b at *
        have hab : a * b ≤ 1430 * 1000000 := Nat.mul_le_mul hc9 hr9
        have hab' : (a : Int) * (b : Int) = ((a * b : Nat) : Int) := (Int.natCast_mul a b).symm
        have hab1 : (0 : Int) ≤ (a : Int) * (b : Int) ∧ (a : Int) * (b : Int) ≤ 1430000000 := by rw [hab']; omega
        have hS0 : S0 ≤ 1000000 := by omega
        have HM : Hid ((S0 : Int) + (a : Int) * (b : Int) = (S1 : Int)) := by show _ = _; rw [hab', hs2]; omega
        clear e2 hS1 hCA hFO hs2 hab hab'
        obtain ⟨m1, m2⟩ := hab1
        go_wp2_with fail
        first
          | (refine (C _).mono ?_; rintro e wc ⟨rfl, rfl⟩
             go_wp2_with fail
             refine (R _).mono ?_; rintro e wc ⟨rfl, rfl⟩)
          | (refine (R _).mono ?_; rintro e wc ⟨rfl, rfl⟩
             go_wp2_with fail
             refine (C _).mono ?_; rintro e wc ⟨rfl, rfl⟩)
        go_wp2_with fail
        go_round
        case rel => exact ⟨i + 1, by omega, by go_num, by rw [HS1.out, ← HM.out]⟩
        case measure => simp [intOf]; omega
      · obtain rfl : i = c + 1 := by omega
        go_wp2_with fail
        go_ret
        exact ⟨ret_int (by rw [hf.out]), rfl⟩

def forestsO (r c : Int) : Option Nat := if 1 ≤ r ∧ r ≤ 9 ∧ 0 ≤ c ∧ c ≤ 8 then some (listsN r.toNat c.toNat) else none
theorem specCountForests_any (r c : Int) (w : World) :
    Calls Try.prog 26 #[.int .i64 r, .int .i64 c] w (Gives (ansN (forestsO r c)) w) := by
  unfold forestsO
  by_cases h1 : 1 ≤ r ∧ r ≤ 9
  · have I1 := fun w => l1In_yes r 1 9 w h1.1 h1.2
    by_cases h2 : 0 ≤ c ∧ c ≤ 8
    · have I2 := fun w => l1In_yes c 0 8 w h2.1 h2.2
      rw [if_pos (by omega)]
      obtain ⟨t, rfl⟩ : ∃ t : Nat, r = t := ⟨r.toNat, by omega⟩
      obtain ⟨k, rfl⟩ : ∃ k : Nat, c = k := ⟨c.toNat, by omega⟩
      have ft := forN_eq t k (by omega) (by omega) (by omega)
      have P := fun w => prForests_any t k w (by omega) (by omega)
      rw [ft] at P
      have e1 : ((t : Int)).toNat = t := by omega
      have e2 : ((k : Int)).toNat = k := by omega
      rw [e1, e2]
      clear h1 h2 e1 e2 ft
      go_enter Try.func26, Try.ntmps26
      go_wp2_with fail
      refine (I1 _).mono ?_; rintro e w1 ⟨rfl, rfl⟩
      go_wp2_with fail
      refine (I2 _).mono ?_; rintro e w1 ⟨rfl, rfl⟩
      go_wp2_with fail
      refine (P _).mono ?_; rintro e w1 ⟨rfl, rfl⟩
      go_wp2_with fail
      go_ret2
      exact ⟨rfl, Below.refl _ _⟩
    · have I2 := fun w => l1In_no c 0 8 w (by omega)
      rw [if_neg (by omega)]
      clear h1 h2
      go_enter Try.func26, Try.ntmps26
      go_wp2_with fail
      refine (I1 _).mono ?_; rintro e w1 ⟨rfl, rfl⟩
      go_wp2_with fail
      refine (I2 _).mono ?_; rintro e w1 ⟨rfl, rfl⟩
      go_wp2_with fail
      go_ret2
      exact ⟨rfl, Below.refl _ _⟩
  · have I1 := fun w => l1In_no r 1 9 w (by omega)
    rw [if_neg (by omega)]
    clear h1
    go_enter Try.func26, Try.ntmps26
    go_wp2_with fail
    refine (I1 _).mono ?_; rintro e w1 ⟨rfl, rfl⟩
    go_wp2_with fail
    go_ret2
    exact ⟨rfl, Below.refl _ _⟩

theorem implCountForests_any (r c : Int) (w : World) (lo1 : -9223372036854775808 ≤ r) (hi1 : r ≤ 9223372036854775807) (lo2 : -9223372036854775808 ≤ c) (hi2 : c ≤ 9223372036854775807) :
    Calls Try.prog 27 #[.int .i64 r, .int .i64 c] w (Gives (ansN (forestsO r c)) w) := by
  unfold forestsO
  by_cases h1 : r < 1
  · rw [if_neg (by omega)]
    go_enter Try.func27, Try.ntmps27
    go_wp2_with fail
    go_ret2
    exact ⟨rfl, Below.refl _ _⟩
  by_cases h2 : 9 < r
  · rw [if_neg (by omega)]
    go_enter Try.func27, Try.ntmps27
    go_wp2_with fail
    go_ret2
    exact ⟨rfl, Below.refl _ _⟩
  by_cases h3 : c < 0
  · rw [if_neg (by omega)]
    go_enter Try.func27, Try.ntmps27
    go_wp2_with fail
    go_ret2
    exact ⟨rfl, Below.refl _ _⟩
  by_cases h4 : 8 < c
  · rw [if_neg (by omega)]
    go_enter Try.func27, Try.ntmps27
    go_wp2_with fail
    go_ret2
    exact ⟨rfl, Below.refl _ _⟩
  rw [if_pos (by omega)]
  obtain ⟨t, rfl⟩ : ∃ t : Nat, r = t := ⟨r.toNat, by omega⟩
  obtain ⟨k, rfl⟩ : ∃ k : Nat, c = k := ⟨c.toNat, by omega⟩
  have P := fun w => countLists_any t k w (by omega) (by omega) (by omega)
  have e1 : ((t : Int)).toNat = t := by omega
  have e2 : ((k : Int)).toNat = k := by omega
  rw [e1, e2]
  clear e1 e2
  go_enter Try.func27, Try.ntmps27
  go_wp2_with fail
  refine (P _).mono ?_; rintro e w1 ⟨rfl, rfl⟩
  go_wp2_with fail
  go_ret2
  exact ⟨rfl, Below.refl _ _⟩

theorem fnExactCountForests_walk (n0 : Int) (hn0 : (Lit.int .i64 n0).wf = true) (n1 : Int) (hn1 : (Lit.int .i64 n1).wf = true) (w : World) :
    Calls Try.prog 7 #[.int .i64 n0, .int .i64 n1] w fun e w' => e = .returned (.bool true) ∧ Below w.heap.size w w' := by
  obtain ⟨lo0, hi0⟩ := i64_bounds hn0
  obtain ⟨lo1, hi1⟩ := i64_bounds hn1
  have hS := fun w => specCountForests_any n0 n1 w
  have hI := fun w => implCountForests_any n0 n1 w lo0 hi0 lo1 hi1
  generalize forestsO n0 n1 = o at *
  unfold ansN at hS hI
  go_enter Try.func7, Try.ntmps7
  go_wp2_with fail
  refine (hS _).mono ?_; rintro e w1 ⟨rfl, hb1⟩
  go_wp2_with fail
  refine (hI _).mono ?_; rintro e w2 ⟨rfl, hb2⟩
  go_wp2_with fail
  go_ret
  exact ⟨rfl, nx hb1 hb2⟩
end Go.Proofs.Ytbeailflcinilab
