/- Fractions: what the Go texts of chapter 4 compute, as plain functions. No program is named here. -/
import Derived.WalkKit
namespace Go.Proofs.YtdhjchibhlcchaaDoor

/-- Is it a power of 2, 1 to 1024? -/
def isP2 (d : Int) : Bool := decide (d ∈ [(1 : Int), 2, 4, 8, 16, 32, 64, 128, 256, 512, 1024])
/-- Is it a fraction? -/
def isFr (n d : Int) : Bool := isP2 d && (decide (0 ≤ n) && (decide (n ≤ d) && (decide (d = 1) || decide (n % 2 = 1))))
theorem isP2_mem {d : Int} : isP2 d = true ↔ d = 1 ∨ d = 2 ∨ d = 4 ∨ d = 8 ∨ d = 16 ∨ d = 32 ∨ d = 64 ∨ d = 128 ∨ d = 256 ∨ d = 512 ∨ d = 1024 := by
  simp [isP2]
theorem isP2_pow {d : Int} (h : isP2 d = true) : ∃ k : Nat, k ≤ 10 ∧ d = ((2 ^ k : Nat) : Int) := by
  rcases isP2_mem.1 h with h | h | h | h | h | h | h | h | h | h | h
  · exact ⟨0, by omega, h⟩
  · exact ⟨1, by omega, h⟩
  · exact ⟨2, by omega, h⟩
  · exact ⟨3, by omega, h⟩
  · exact ⟨4, by omega, h⟩
  · exact ⟨5, by omega, h⟩
  · exact ⟨6, by omega, h⟩
  · exact ⟨7, by omega, h⟩
  · exact ⟨8, by omega, h⟩
  · exact ⟨9, by omega, h⟩
  · exact ⟨10, by omega, h⟩
theorem pow_isP2 {k : Nat} (h : k ≤ 10) : isP2 ((2 ^ k : Nat) : Int) = true := by
  have : k = 0 ∨ k = 1 ∨ k = 2 ∨ k = 3 ∨ k = 4 ∨ k = 5 ∨ k = 6 ∨ k = 7 ∨ k = 8 ∨ k = 9 ∨ k = 10 := by omega
  rcases this with h | h | h | h | h | h | h | h | h | h | h <;> subst h <;> decide
theorem isP2_bounds {d : Int} (h : isP2 d = true) : 1 ≤ d ∧ d ≤ 1024 := by
  have := isP2_mem.1 h; omega
theorem isP2_odd {d : Int} (h : 1 < d) (h2 : d % 2 = 1) : isP2 d = false := by
  rw [Bool.eq_false_iff, Ne, isP2_mem]; omega
theorem isP2_half {d : Int} (h : 1 < d) (h1 : d ≤ 1024) (h2 : ¬ d % 2 = 1) : isP2 (d / 2) = isP2 d := by
  rw [Bool.eq_iff_iff, isP2_mem, isP2_mem]; omega
theorem isFr_iff {n d : Int} : isFr n d = true ↔ isP2 d = true ∧ 0 ≤ n ∧ n ≤ d ∧ (d = 1 ∨ n % 2 = 1) := by
  simp [isFr]

/-- In lowest terms. -/
def shortN (n d : Nat) : Nat × Nat := (n / Nat.gcd n d, d / Nat.gcd n d)
theorem short_cross {n d n' d' : Nat} (hd : 0 < d) (hd' : 0 < d') (h : n * d' = n' * d) : shortN n d = shortN n' d' := by
  have g0 : 0 < Nat.gcd n d := Nat.gcd_pos_of_pos_right _ hd
  have g0' : 0 < Nat.gcd n' d' := Nat.gcd_pos_of_pos_right _ hd'
  have c := Nat.coprime_div_gcd_div_gcd g0
  have c' := Nat.coprime_div_gcd_div_gcd g0'
  obtain ⟨a, ha⟩ := Nat.gcd_dvd_left n d
  obtain ⟨b, hb⟩ := Nat.gcd_dvd_right n d
  obtain ⟨a', ha'⟩ := Nat.gcd_dvd_left n' d'
  obtain ⟨b', hb'⟩ := Nat.gcd_dvd_right n' d'
  unfold shortN
  generalize Nat.gcd n d = g at *
  generalize Nat.gcd n' d' = g' at *
  subst ha hb ha' hb'
  rw [Nat.mul_div_cancel_left _ g0, Nat.mul_div_cancel_left _ g0] at c ⊢
  rw [Nat.mul_div_cancel_left _ g0', Nat.mul_div_cancel_left _ g0'] at c' ⊢
  have e : a * b' = a' * b := by
    have h2 : (g * g') * (a * b') = (g * g') * (a' * b) := by
      calc (g * g') * (a * b') = g * a * (g' * b') := by ac_rfl
        _ = g' * a' * (g * b) := h
        _ = (g * g') * (a' * b) := by ac_rfl
    exact Nat.eq_of_mul_eq_mul_left (Nat.mul_pos g0 g0') h2
  have hb0 : 0 < b := Nat.pos_of_ne_zero fun h => by subst h; simp at hd
  have hb0' : 0 < b' := Nat.pos_of_ne_zero fun h => by subst h; simp at hd'
  have d1 : b ∣ b' := (Nat.Coprime.symm c).dvd_of_dvd_mul_left (k := b) (n := b') (m := a) ⟨a', by rw [e]; ac_rfl⟩
  have d2 : b' ∣ b := (Nat.Coprime.symm c').dvd_of_dvd_mul_left (k := b') (n := b) (m := a') ⟨a, by rw [← e]; ac_rfl⟩
  have eb : b = b' := Nat.dvd_antisymm d1 d2
  subst eb
  have ea : a = a' := Nat.eq_of_mul_eq_mul_right hb0 e
  subst ea; rfl
theorem short_self {n d : Nat} (h : Nat.gcd n d = 1) : shortN n d = (n, d) := by simp [shortN, h]
theorem gcd_odd_pow {n : Nat} (h : n % 2 = 1) : ∀ k : Nat, Nat.gcd n (2 ^ k) = 1 := by
  intro k
  have : Nat.Coprime n (2 ^ k) := by
    apply Nat.Coprime.pow_right
    have h2 : Nat.gcd n 2 = Nat.gcd 2 n := Nat.gcd_comm _ _
    show Nat.gcd n 2 = 1
    rw [h2, Nat.gcd_rec, h]
    rfl
  exact this

/-- The fraction of so many steps. -/
def frOf (s : Nat) : Nat × Nat := shortN s 1048576
/-- .. if it is one. -/
def frA (s : Nat) : Option (Nat × Nat) := if isFr (frOf s).1 (frOf s).2 = true then some (frOf s) else none
/-- How many steps. -/
def stepsOf (n d : Int) : Nat := n.toNat * (1048576 / d.toNat)
theorem short_pos {n d : Nat} (hd : 0 < d) : 0 < (shortN n d).2 := Nat.div_pos (Nat.le_of_dvd hd (Nat.gcd_dvd_right _ _)) (Nat.gcd_pos_of_pos_right _ hd)
theorem short_bounds (n d : Nat) : (shortN n d).1 ≤ n ∧ (shortN n d).2 ≤ d := ⟨Nat.div_le_self _ _, Nat.div_le_self _ _⟩
theorem short_le {n d : Nat} (h : n ≤ d) : (shortN n d).1 ≤ (shortN n d).2 := Nat.div_le_div_right h
theorem frOf_steps {n d : Nat} (h : isFr n d = true) : frOf (stepsOf n d) = (n, d) := by
  obtain ⟨h1, h2, h3, h4⟩ := isFr_iff.1 h
  obtain ⟨k, hk, e⟩ := isP2_pow h1
  have e' : d = 2 ^ k := by omega
  have hd : 1048576 = 2 ^ (20 - k) * d := by rw [e', ← Nat.pow_add]; have : 20 - k + k = 20 := by omega
                                             rw [this]
  have hd0 : 0 < d := by rw [e']; exact Nat.pow_pos (by omega)
  have hs : stepsOf n d = n * 2 ^ (20 - k) := by
    unfold stepsOf
    rw [Int.toNat_natCast, Int.toNat_natCast, hd, Nat.mul_div_cancel _ hd0]
  unfold frOf
  rw [hs, short_cross (by omega) hd0 (n' := n) (d' := d) (by rw [hd, Nat.mul_assoc])]
  apply short_self
  rcases h4 with h4 | h4
  · have : d = 1 := by omega
    rw [this]; exact Nat.gcd_one_right _
  · rw [e']; exact gcd_odd_pow (by omega) k
theorem steps_le {n d : Int} (h : isFr n d = true) : stepsOf n d ≤ 1048576 ∧ stepsOf n d % 1024 = 0 ∧ (stepsOf n d : Int) = n * (1048576 / d) := by
  obtain ⟨h1, h2, h3, h4⟩ := isFr_iff.1 h
  unfold stepsOf
  rcases isP2_mem.1 h1 with e | e | e | e | e | e | e | e | e | e | e <;> subst e <;> simp <;> omega
/-- Halves, so long as it goes. -/
theorem frOf_even {s n d : Nat} (h : n * 1048576 = s * d) (hd : 0 < d) : frOf s = shortN n d :=
  short_cross (by omega) hd (by rw [h])
end Go.Proofs.YtdhjchibhlcchaaDoor
