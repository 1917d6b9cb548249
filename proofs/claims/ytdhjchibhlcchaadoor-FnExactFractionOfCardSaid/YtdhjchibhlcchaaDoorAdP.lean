/- Addresses of fractions. No program is named here. -/
import Derived.Test.YtdhjchibhlcchaaDoorFrQ
namespace Go.Proofs.YtdhjchibhlcchaaDoor

/-- The letters of a number in the base 2. -/
def bitsL (m len : Nat) : List UInt8 := (List.range len).map fun i => UInt8.ofNat (48 + m / 2 ^ (len - 1 - i) % 2)
theorem bitsL_length (m len : Nat) : (bitsL m len).length = len := by simp [bitsL]
theorem bitsL_take {m len k : Nat} (h : k < len) : (bitsL m len).take (k + 1) = (bitsL m len).take k ++ [UInt8.ofNat (48 + m / 2 ^ (len - 1 - k) % 2)] := by
  rw [List.take_succ_eq_append_getElem (by rw [bitsL_length]; exact h)]
  simp [bitsL]
/-- How many intervals of addresses with so many letters lie in front. -/
def adM (n d len : Nat) : Nat := n * (2 ^ len / d)
/-- The address of a fraction. -/
def adO (n d len : Int) : Option ByteArray :=
  if isFr n d = true ∧ 0 ≤ len ∧ len ≤ 10 ∧ n ≠ d ∧ d ≤ ((2 ^ len.toNat : Nat) : Int) then some ⟨(bitsL (adM n.toNat d.toNat len.toNat) len.toNat).toArray⟩ else none
theorem steps_whole {n d : Nat} (h : isFr n d = true) : stepsOf n d = 1048576 ↔ n = d := by
  obtain ⟨h1, h2, h3, h4⟩ := isFr_iff.1 h
  unfold stepsOf
  rcases isP2_mem.1 h1 with e | e | e | e | e | e | e | e | e | e | e <;>
    (have e' := congrArg Int.toNat e; simp at e'; subst e'; simp; try omega)
theorem small_cases {len : Nat} (h : len ≤ 10) : len = 0 ∨ len = 1 ∨ len = 2 ∨ len = 3 ∨ len = 4 ∨ len = 5 ∨ len = 6 ∨ len = 7 ∨ len = 8 ∨ len = 9 ∨ len = 10 := by omega
theorem steps_fit {n d len : Nat} (h : isFr n d = true) (hl : len ≤ 10) : stepsOf n d % 2 ^ (20 - len) = 0 ↔ d ≤ 2 ^ len := by
  obtain ⟨h1, h2, h3, h4⟩ := isFr_iff.1 h
  unfold stepsOf
  rcases isP2_mem.1 h1 with e | e | e | e | e | e | e | e | e | e | e <;>
    (have e' := congrArg Int.toNat e
     simp at e'
     subst e'
     rcases small_cases hl with f | f | f | f | f | f | f | f | f | f | f <;> (subst f; simp; try omega))
theorem steps_adM {n d len : Nat} (h : isFr n d = true) (hl : len ≤ 10) (hd : d ≤ 2 ^ len) : stepsOf n d = adM n d len * 2 ^ (20 - len) := by
  obtain ⟨h1, h2, h3, h4⟩ := isFr_iff.1 h
  obtain ⟨k, hk, e⟩ := isP2_pow h1
  have e' : d = 2 ^ k := by omega
  have hkl : k ≤ len := by
    rw [e'] at hd
    exact (Nat.pow_le_pow_iff_right (by omega)).1 hd
  unfold stepsOf adM
  rw [Int.toNat_natCast, Int.toNat_natCast, e']
  have e1 : 1048576 = 2 ^ (20 - k) * 2 ^ k := by rw [← Nat.pow_add, show 20 - k + k = 20 by omega]
  have e2 : 2 ^ len = 2 ^ (len - k) * 2 ^ k := by rw [← Nat.pow_add, show len - k + k = len by omega]
  rw [e1, e2, Nat.mul_div_cancel _ (Nat.pow_pos (by omega)), Nat.mul_div_cancel _ (Nat.pow_pos (by omega)), Nat.mul_assoc, ← Nat.pow_add, show len - k + (20 - len) = 20 - k by omega]
theorem steps_bit {n d len i : Nat} (h : isFr n d = true) (hl : len ≤ 10) (hd : d ≤ 2 ^ len) (hi : i < len) : stepsOf n d / 2 ^ (19 - i) % 2 = adM n d len / 2 ^ (len - 1 - i) % 2 := by
  rw [steps_adM h hl hd, show 19 - i = (len - 1 - i) + (20 - len) by omega, Nat.pow_add, Nat.mul_div_mul_right _ _ (Nat.pow_pos (by omega))]
theorem adM_lt {n d len : Nat} (h : isFr n d = true) (hl : len ≤ 10) : adM n d len ≤ 1024 := by
  obtain ⟨h1, h2, h3, h4⟩ := isFr_iff.1 h
  have hd : 1 ≤ d := by have := isP2_bounds h1; omega
  unfold adM
  have a : n * (2 ^ len / d) ≤ d * (2 ^ len / d) := Nat.mul_le_mul_right _ (by omega)
  have b : d * (2 ^ len / d) ≤ 2 ^ len := Nat.mul_div_le _ _
  have c : 2 ^ len ≤ 2 ^ 10 := Nat.pow_le_pow_right (by omega) hl
  omega
end Go.Proofs.YtdhjchibhlcchaaDoor
