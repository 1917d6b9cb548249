/- Fractions of addresses, leaves that have them. No program is named here. -/
import Derived.Test.YtdhjchibhlcchaaDoorFrP
import Derived.Test.YtdhjchibhlcchaaDoorAddrP
namespace Go.Proofs.YtdhjchibhlcchaaDoor

theorem steps_cross {n d : Nat} (h : isFr n d = true) : n * 1048576 = stepsOf n d * d := by
  obtain ⟨h1, h2, h3, h4⟩ := isFr_iff.1 h
  unfold stepsOf
  rcases isP2_mem.1 h1 with e | e | e | e | e | e | e | e | e | e | e <;>
    (have e' := congrArg Int.toNat e; simp at e'; subst e'; simp; try omega)
/-- The half of a sum. -/
theorem half_cross {n d m e : Nat} (h : isFr n d = true) (k : isFr m e = true) :
    (n * e + m * d) * 1048576 = ((stepsOf n d + stepsOf m e) / 2) * (2 * d * e) := by
  have h1 := steps_cross h
  have k1 := steps_cross k
  have h2 := (steps_le h).2.1
  have k2 := (steps_le k).2.1
  obtain ⟨W, hW⟩ : ∃ W, W = 1048576 := ⟨_, rfl⟩
  rw [← hW] at h1 k1 ⊢
  generalize stepsOf n d = s at *
  generalize stepsOf m e = t at *
  obtain ⟨q, hq⟩ : ∃ q, s + t = 2 * q := ⟨(s + t) / 2, by omega⟩
  rw [hq, Nat.mul_div_cancel_left _ (by omega)]
  calc (n * e + m * d) * W = (n * W) * e + (m * W) * d := by rw [Nat.add_mul]; congr 1 <;> ac_rfl
    _ = (s + t) * (d * e) := by rw [h1, k1, Nat.add_mul]; congr 1 <;> ac_rfl
    _ = q * (2 * d * e) := by rw [hq]; ac_rfl

/-- The number that letters make in the base 2. -/
def numA (l : List UInt8) : Nat := l.foldl (fun n b => 2 * n + (b.toNat - 48)) 0
def isBit (b : UInt8) : Bool := b == 48 || b == 49
/-- Is a text an address? -/
def isAd (a : ByteArray) : Bool := decide (a.size ≤ 10) && a.data.toList.all isBit
/-- Where an address begins, in steps. -/
def stA (a : ByteArray) : Nat := numA a.data.toList * 2 ^ (20 - a.size)
theorem isBit_iff {b : UInt8} : isBit b = true ↔ b = 48 ∨ b = 49 := by simp [isBit]
theorem isBit_nat {b : UInt8} (h : isBit b = true) : b.toNat = 48 ∨ b.toNat = 49 := by
  rcases isBit_iff.1 h with h | h <;> subst h <;> simp
theorem numA_snoc (l : List UInt8) (b : UInt8) : numA (l ++ [b]) = 2 * numA l + (b.toNat - 48) := by simp [numA, List.foldl_append]
theorem numA_take {l : List UInt8} {k : Nat} (h : k < l.length) : numA (l.take (k + 1)) = 2 * numA (l.take k) + ((l.getD k 0).toNat - 48) := by
  rw [List.take_succ_eq_append_getElem h, numA_snoc]; simp [h]
theorem numA_lt : ∀ (n : Nat) (l : List UInt8), l.length = n → l.all isBit = true → numA l < 2 ^ n := by
  intro n
  induction n with
  | zero => intro l hl _; obtain rfl : l = [] := List.length_eq_zero_iff.1 hl; simp [numA]
  | succ n ih =>
    intro l hl hb
    have hne : l ≠ [] := by intro h; subst h; simp at hl
    obtain ⟨l', b, rfl⟩ : ∃ l' b, l = l' ++ [b] := ⟨l.dropLast, l.getLast hne, (List.dropLast_concat_getLast hne).symm⟩
    rw [List.all_append, Bool.and_eq_true] at hb
    simp at hl hb
    have := ih l' hl (by simpa using hb.1)
    have := isBit_nat hb.2
    rw [numA_snoc, Nat.pow_succ]; omega
theorem isAd_iff {a : ByteArray} : isAd a = true ↔ a.size ≤ 10 ∧ a.data.toList.all isBit = true := by simp [isAd]

set_option maxRecDepth 100000 in
theorem frOf_1024 : ∀ m : Fin 1025, isFr (shortN m.val 1024).1 (shortN m.val 1024).2 = true := by decide +kernel
theorem frOf_short (m : Nat) : frOf (m * 1024) = shortN m 1024 := short_cross (by omega) (by omega) (by omega)
theorem frOf_thousand {s : Nat} (h : s ≤ 1048576) (h2 : s % 1024 = 0) : isFr (frOf s).1 (frOf s).2 = true := by
  obtain ⟨m, rfl⟩ : ∃ m, s = m * 1024 := ⟨s / 1024, by omega⟩
  rw [frOf_short]
  exact frOf_1024 ⟨m, by omega⟩
theorem frA_thousand {s : Nat} (h : s ≤ 1048576) (h2 : s % 1024 = 0) : frA s = some (frOf s) := by
  unfold frA; rw [if_pos (frOf_thousand h h2)]
/-- Each number of steps is more than that of its fraction by what is no fraction. -/
theorem stA_frOf {a : ByteArray} (h : a.size ≤ 20) : frOf (stA a) = shortN (numA a.data.toList) (2 ^ a.size) := by
  refine short_cross (by omega) (Nat.pow_pos (by omega)) ?_
  unfold stA
  rw [Nat.mul_assoc, ← Nat.pow_add, show 20 - a.size + a.size = 20 by omega]
theorem stA_lt {a : ByteArray} (h : a.size ≤ 20) (hb : a.data.toList.all isBit = true) : stA a < 1048576 := by
  have h1 := numA_lt _ a.data.toList rfl hb
  have h2 : a.data.toList.length = a.size := rfl
  rw [h2] at h1
  unfold stA
  have := Nat.mul_lt_mul_of_pos_right h1 (Nat.pow_pos (n := 20 - a.size) (by omega : 0 < 2))
  rw [← Nat.pow_add, show a.size + (20 - a.size) = 20 by omega] at this
  simpa using this
theorem stA_thousand {a : ByteArray} (h : a.size ≤ 10) : stA a % 1024 = 0 := by
  unfold stA
  rw [show (20 - a.size) = (10 - a.size) + 10 by omega, Nat.pow_add, ← Nat.mul_assoc]
  simp

/-- The last index of a list whose number is not beyond s; 0 for none. -/
def lastTo (l : List Nat) (s : Nat) : Nat := go l s 0 0 where
  go : List Nat → Nat → Nat → Nat → Nat
  | [], _, _, r => r
  | x :: l, s, k, r => go l s (k + 1) (if x ≤ s then k else r)
theorem lastTo_go_snoc (l : List Nat) (x s : Nat) : ∀ k r, lastTo.go (l ++ [x]) s k r = if x ≤ s then k + l.length else lastTo.go l s k r := by
  induction l with
  | nil => intro k r; simp [lastTo.go]
  | cons y l ih =>
    intro k r
    simp only [List.cons_append, lastTo.go, ih, List.length_cons]
    split
    · omega
    · rfl
theorem lastTo_take {l : List Nat} {k s : Nat} (h : k < l.length) : lastTo (l.take (k + 1)) s = if l.getD k 0 ≤ s then k else lastTo (l.take k) s := by
  rw [List.take_succ_eq_append_getElem h]
  unfold lastTo
  rw [lastTo_go_snoc]
  rw [List.length_take, Nat.min_eq_left (by omega), Nat.zero_add]
  simp [h]
theorem lastTo_zero (s : Nat) : lastTo [] s = 0 := rfl
theorem lastTo_lt : ∀ (l : List Nat) (s : Nat), 0 < l.length → lastTo l s < l.length := by
  intro l s h
  have : ∀ (n : Nat), n ≤ l.length → lastTo (l.take n) s ≤ n - 1 := by
    intro n
    induction n with
    | zero => intro _; simp [lastTo, lastTo.go]
    | succ n ih => intro hn; rw [lastTo_take (by omega)]; have := ih (by omega); split <;> omega
  have := this l.length (Nat.le_refl _)
  rw [List.take_length] at this
  omega
/-- Where the leaves of a tree begin. -/
def Tr.starts (t : Tr) : List Nat := (t.addrs ⟨#[]⟩).map stA
theorem starts_length (t : Tr) : t.starts.length = t.carets + 1 := by simp [Tr.starts, addrs_length]
end Go.Proofs.YtdhjchibhlcchaaDoor
