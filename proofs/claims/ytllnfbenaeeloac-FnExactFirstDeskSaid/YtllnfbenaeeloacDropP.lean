/- Which leaves can be dropped. No program is named here. -/
import Derived.Test.YtllnfbenaeeloacExpoP
namespace Go.Proofs.Ytllnfbenaeeloac

theorem posFrom_shift : ∀ (l : List UInt8) (off : Nat) (q : Int), posFrom l off q = if posFrom l 0 q = -1 then -1 else posFrom l 0 q + off := by
  intro l
  induction l with
  | nil => intro off q; rfl
  | cons c r ih =>
    intro off q
    have h1 := ih (off + 1) (q - 1)
    have h2 := ih (0 + 1) (q - 1)
    have h3 := ih (off + 1) q
    have h4 := ih (0 + 1) q
    have r1 := posFrom_range r 0 (q - 1)
    have r2 := posFrom_range r 0 q
    rw [posFrom, posFrom, h1, h2, h3, h4]
    repeat' split
    all_goals omega

/-- The leaf q is the left one of an exposed caret. -/
def dropB (l : List UInt8) (q : Int) : Bool := decide (1 ≤ posFrom l 0 q) && expB (l.drop ((posFrom l 0 q).toNat - 1))

theorem expB_two {c : UInt8} {r : List UInt8} (h : expB (c :: r) = true) : ∃ r', r = 46 :: r' := by
  unfold expB at h
  simp only [beq_iff_eq] at h
  match r with
  | [] => simp at h
  | d :: r' =>
    simp at h
    exact ⟨r', by rw [h.2.1]⟩

theorem mem_exL : ∀ (l : List UInt8) (n m : Int), n ∈ exL l m ↔ dropB l (n - m) = true := by
  intro l
  induction l with
  | nil => intro n m; simp [exL, dropB, posFrom]
  | cons c r ih =>
    intro n m
    have ih0 := ih n m
    have ih1 := ih n (m + 1)
    have e1 : n - (m + 1) = n - m - 1 := by omega
    rw [e1] at ih1
    rw [exL, List.mem_append]
    by_cases hc : c = 46
    · have hx : expB (c :: r) = false := by
        cases h : expB (c :: r) with
        | false => rfl
        | true => have := (expB_cons h).1; rw [hc] at this; exact absurd this (by decide)
      rw [hx, if_pos hc, ih1]
      simp only [Bool.false_eq_true, if_false, List.not_mem_nil, false_or]
      unfold dropB
      rw [posFrom, if_pos hc]
      by_cases hz : n - m = 0
      · rw [if_pos hz, posFrom_neg r 0 (n - m - 1) (by omega)]
        simp
      · rw [if_neg hz, posFrom_shift r (0 + 1)]
        have hr := posFrom_range r 0 (n - m - 1)
        by_cases h1 : posFrom r 0 (n - m - 1) = -1
        · rw [if_pos h1, h1]; simp
        · rw [if_neg h1]
          by_cases h0 : posFrom r 0 (n - m - 1) = 0
          · rw [h0]
            simp [hx]
          · have h2 : 1 ≤ posFrom r 0 (n - m - 1) := by omega
            obtain ⟨p, hp⟩ : ∃ p : Nat, posFrom r 0 (n - m - 1) = (p : Int) + 1 := ⟨(posFrom r 0 (n - m - 1)).toNat - 1, by omega⟩
            rw [hp]
            have t1 : ((p : Int) + 1 + ((0 + 1 : Nat) : Int)).toNat - 1 = p + 1 := by omega
            have t2 : ((p : Int) + 1).toNat - 1 = p := by omega
            rw [t1, t2, List.drop_succ_cons]
            have d1 : decide (1 ≤ (p : Int) + 1) = true := decide_eq_true (by omega)
            have d2 : decide (1 ≤ (p : Int) + 1 + ((0 + 1 : Nat) : Int)) = true := decide_eq_true (by omega)
            rw [d1, d2]
    · rw [if_neg hc, ih0]
      unfold dropB
      rw [posFrom, if_neg hc, posFrom_shift r (0 + 1)]
      have hr := posFrom_range r 0 (n - m)
      have hzero : expB (c :: r) = true → posFrom r 0 (n - m) = 0 → n = m := by
        intro h h'
        obtain ⟨r', rfl⟩ := expB_two h
        rw [posFrom, if_pos rfl] at h'
        by_cases hz : n - m = 0
        · omega
        · rw [if_neg hz, posFrom_shift r' (0 + 1)] at h'
          have := posFrom_range r' 0 (n - m - 1)
          split at h' <;> omega
      have hzero' : expB (c :: r) = true → n = m → posFrom r 0 (n - m) = 0 := by
        intro h h'
        obtain ⟨r', rfl⟩ := expB_two h
        rw [posFrom, if_pos rfl, if_pos (by omega)]; rfl
      by_cases h1 : posFrom r 0 (n - m) = -1
      · rw [if_pos h1, h1]
        simp only [show decide ((1 : Int) ≤ -1) = false from rfl, Bool.false_and, Bool.false_eq_true, or_false, iff_false]
        intro h
        split at h
        · next he =>
          have := hzero' he (by simpa using h)
          omega
        · simp at h
      · rw [if_neg h1]
        by_cases h0 : posFrom r 0 (n - m) = 0
        · rw [h0]
          simp only [show decide ((1 : Int) ≤ 0) = false from rfl, Bool.false_and, Bool.false_eq_true, or_false]
          have t1 : ((0 : Int) + ((0 + 1 : Nat) : Int)).toNat - 1 = 0 := by omega
          rw [t1, List.drop_zero]
          have d2 : decide (1 ≤ (0 : Int) + ((0 + 1 : Nat) : Int)) = true := decide_eq_true (by omega)
          rw [d2]
          cases he : expB (c :: r) with
          | false => simp
          | true => simp; exact hzero he h0
        · obtain ⟨p, hp⟩ : ∃ p : Nat, posFrom r 0 (n - m) = (p : Int) + 1 := ⟨(posFrom r 0 (n - m)).toNat - 1, by omega⟩
          rw [hp]
          have t1 : ((p : Int) + 1 + ((0 + 1 : Nat) : Int)).toNat - 1 = p + 1 := by omega
          have t2 : ((p : Int) + 1).toNat - 1 = p := by omega
          rw [t1, t2, List.drop_succ_cons]
          have d1 : decide (1 ≤ (p : Int) + 1) = true := decide_eq_true (by omega)
          have d2 : decide (1 ≤ (p : Int) + 1 + ((0 + 1 : Nat) : Int)) = true := decide_eq_true (by omega)
          rw [d1, d2]
          constructor
          · rintro (h | h)
            · split at h
              · next he =>
                have := hzero' he (by simpa using h)
                omega
              · simp at h
            · exact h
          · exact .inr

/-- The text of a tree with a leaf in place of the exposed caret that begins at index q. -/
def dropS (s : ByteArray) (q : Nat) : ByteArray := s.extract 0 q ++ ⟨#[46]⟩ ++ s.extract (q + 4) s.size

/-- Of a text, the answer of DropExposed. -/
def dropO (s : ByteArray) (n : Int) : Option ByteArray :=
  if dropB s.data.toList n = true then some (dropS s ((posFrom s.data.toList 0 n).toNat - 1)) else none

theorem dropB_true {s : ByteArray} {n : Int} (h : dropB s.data.toList n = true) : ∃ q : Nat, posFrom s.data.toList 0 n = (q : Int) + 1 ∧ q + 4 ≤ s.size ∧ expB (s.data.toList.drop q) = true ∧ 0 ≤ n := by
  unfold dropB at h
  simp only [Bool.and_eq_true, decide_eq_true_eq] at h
  obtain ⟨h1, h2⟩ := h
  refine ⟨(posFrom s.data.toList 0 n).toNat - 1, by omega, ?_, h2, ?_⟩
  · have := expB_drop h2; rw [← Lib.size_eq] at this; exact this
  · rcases Int.lt_or_le n 0 with hn | hn
    · rw [posFrom_neg _ _ _ hn] at h1; omega
    · exact hn
end Go.Proofs.Ytllnfbenaeeloac
