/- Walks: lists of exponents. -/
import Derived.Test.YtgmjchpcpocpoabTf
import Derived.Test.YtgmjchpcpocpoabGraft
import Derived.Test.YtgmjchpcpocpoabComb
import Derived.Test.YtgmjchpcpocpoabArgI
import Derived.Test.YtgmjchpcpocpoabMarkG
import Derived.Test.YtgmjchpcpocpoabGenC
namespace Go.Proofs.Ytgmjchpcpocpoab
open Go.RowKit

def TreeOfExponents_o (L : List Int) : Option Tr := if exOk L = true then lim (treeE (toN L)) else none
theorem all_drop {L : List Int} {k : Nat} (p : Int → Bool) (h : k < L.length) : (L.drop k).all p = (p (L.getD k 0) && (L.drop (k + 1)).all p) := by
  rw [List.drop_eq_getElem_cons h, List.all_cons]; simp [h]
def in8 (x : Int) : Bool := decide (0 ≤ x) && decide (x ≤ 8)
theorem in8_iff {x : Int} : in8 x = true ↔ 0 ≤ x ∧ x ≤ 8 := by simp [in8]
theorem in8_false {x : Int} : in8 x = false ↔ x < 0 ∨ 8 < x := by rw [Bool.eq_false_iff, Ne, in8_iff]; omega
theorem last_at {L : List Int} {n : Nat} (h : L.length = n + 1) : L.getLast? = some (L.getD n 0) := by
  rw [List.getLast?_eq_getElem?, h]; simp [h]

set_option maxHeartbeats 1000000 in
theorem l1All_any (v : Value) (b1 : Nat) (L : List Int) (w : World) (hv : CellsI b1 w v L) :
    Calls Try.prog 46 #[v, .int .i64 0, .int .i64 8] w fun e w' => e = .returned (.bool (L.all in8)) ∧ w = w' := by
  obtain ⟨oa, cap, rfl, hcl, hcm, hcc⟩ := hv.form
  unfold maxLen at hcm
  clear hv
  have HC := Lib.hid hcc
  clear hcc
  go_enter Try.func46, Try.ntmps46
  go_wp2_with fail
  go_loop [11] (fun i => ∃ k : Nat, i = .int .i64 k ∧ k ≤ L.length ∧ Hid (L.all in8 = (L.drop k).all in8)) (fun i => L.length - (intOf i).toNat)
  case atStart => exact ⟨0, rfl, Nat.zero_le _, rfl⟩
  case round =>
    obtain ⟨k, rfl, hk, he⟩ := hrel
    by_cases hlt : k < L.length
    · have hlt' : (k : Int) < (L.length : Int) := by omega
      obtain ⟨g, rfl, _, _, c1⟩ := HC.out k hlt
      have he' := he.out
      rw [all_drop in8 hlt] at he'
      generalize L.getD k 0 = x at c1 he'
      clear he
      cases hx : in8 x with
      | false =>
        rw [hx, Bool.false_and] at he'
        have HE := Lib.hid he'
        have HX := Lib.hid (in8_false.1 hx)
        clear he' hx
        go_wp2_with fail
        refine (l1In_no x 0 8 _ HX.out).mono ?_; rintro e w1 ⟨rfl, rfl⟩
        go_wp2_with fail
        go_ret
        exact ⟨ret_bool HE.out.symm, rfl⟩
      | true =>
        rw [hx, Bool.true_and] at he'
        have HE := Lib.hid he'
        obtain ⟨h0, h1⟩ := in8_iff.1 hx
        clear he' hx
        go_wp2_with fail
        refine (l1In_yes x 0 8 _ h0 h1).mono ?_; rintro e w1 ⟨rfl, rfl⟩
        go_wp2_with fail
        go_round
        case rel => exact ⟨k + 1, by go_num, by omega, HE⟩
        case measure => simp [intOf]; omega
    · obtain rfl : k = L.length := by omega
      have he' := he.out
      rw [List.drop_length] at he'
      have HE : Hid (L.all in8 = true) := he'
      clear he he'
      go_wp2_with fail
      go_ret
      exact ⟨ret_bool HE.out.symm, rfl⟩

set_option maxHeartbeats 1000000 in
theorem areExponents_any (v : Value) (b1 : Nat) (L : List Int) (w : World) (hv : CellsI b1 w v L) :
    Calls Try.prog 50 #[v] w fun e w' => e = .returned (.bool (exOk L)) ∧ w = w' := by
  obtain ⟨oa, cap, rfl, hcl, hcm, hcc⟩ := hv.form
  unfold maxLen at hcm
  clear hv
  have HC := Lib.hid hcc
  clear hcc
  have hex : exOk L = (decide (L.length ≤ 9) && (L.all in8 && !(L.getLast? == some 0))) := rfl
  rw [hex]
  by_cases h : L.length ≤ 9
  · rw [show decide (L.length ≤ 9) = true by simpa using h, Bool.true_and]
    have hn : (L.length : Int) ≤ 9 := by omega
    clear h hex
    go_enter Try.func50, Try.ntmps50
    go_wp2_with fail
    go_loop [10] (fun i => ∃ k : Nat, i = .int .i64 k ∧ k ≤ L.length ∧ Hid (L.all in8 = (L.drop k).all in8)) (fun i => L.length - (intOf i).toNat)
    case atStart => exact ⟨0, rfl, Nat.zero_le _, rfl⟩
    case round =>
      obtain ⟨k, rfl, hk, he⟩ := hrel
      by_cases hlt : k < L.length
      · have hlt' : (k : Int) < (L.length : Int) := by omega
        obtain ⟨g, rfl, _, _, c1⟩ := HC.out k hlt
        have he' := he.out
        rw [all_drop in8 hlt] at he'
        generalize L.getD k 0 = x at c1 he'
        clear he
        cases hx : in8 x with
        | false =>
          rw [hx, Bool.false_and] at he'
          have HE := Lib.hid he'
          by_cases h1 : x < 0
          · have h1' : decide (x < 0) = true := by simpa using h1
            clear he' hx h1
            go_wp2_with fail
            go_ret
            exact ⟨ret_bool (by rw [HE.out]; rfl), rfl⟩
          · have h1' : decide (x < 0) = false := by simpa using h1
            have h2 : 8 < x := by have := in8_false.1 hx; omega
            clear he' hx h1
            go_wp2_with fail
            go_ret
            exact ⟨ret_bool (by rw [HE.out]; rfl), rfl⟩
        | true =>
          rw [hx, Bool.true_and] at he'
          have HE := Lib.hid he'
          obtain ⟨h0, h1⟩ := in8_iff.1 hx
          have h1' : decide (x < 0) = false := by simp; omega
          have h2' : decide (8 < x) = false := by simp; omega
          clear he' hx h0 h1
          go_wp2_with fail
          go_round
          case rel => exact ⟨k + 1, by go_num, by omega, HE⟩
          case measure => simp [intOf]; omega
      · obtain rfl : k = L.length := by omega
        have he' := he.out
        rw [List.drop_length] at he'
        have HE : Hid (L.all in8 = true) := he'
        clear he he'
        cases hl : L.length with
        | zero =>
          obtain rfl : L = [] := List.length_eq_zero_iff.1 hl
          clear hl HE
          go_wp2_with fail
          go_ret
          exact ⟨rfl, rfl⟩
        | succ n =>
          obtain ⟨g, rfl, _, _, c1⟩ := HC.out n (by omega)
          have HLA := Lib.hid (last_at hl)
          have hz : ((n : Int) + 1 == 0) = false := by rw [beq_eq_false_iff_ne]; omega
          generalize L.getD n 0 = x at c1 HLA
          have HL2 := Lib.hid hl
          rw [hl] at hn hcl
          have hnn : (0 : Int) ≤ (n : Int) := by omega
          cases hx : (x == 0)
          all_goals
            have hx2 : (x != 0) = !(x == 0) := rfl
            rw [hx] at hx2
            have HX := Lib.hid hx
            clear hx hl
            go_wp2_with fail
            go_ret
            exact ⟨ret_bool (by rw [HE.out, HLA.out, Bool.true_and]; have := HX.out; simp at this ⊢; exact this), rfl⟩
  · rw [show decide (L.length ≤ 9) = false by simpa using h, Bool.false_and]
    have hn : 9 < (L.length : Int) := by omega
    clear h hex
    go_enter Try.func50, Try.ntmps50
    go_wp2_with fail
    go_ret
    exact ⟨rfl, rfl⟩
end Go.Proofs.Ytgmjchpcpocpoab
