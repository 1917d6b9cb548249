/- Words of trees and pairs; words of two generators. No program is named here. -/
import Derived.Test.YtlcepokenaiggabWdP
import Derived.Test.YtlcepokenaiggabWayP
namespace Go.Proofs.Ytlcepokenaiggab

/-- x(k) as often as the exponent of the leaf k tells, k leaves being in front. -/
def lettersE : List Nat → Nat → List Int
  | [], _ => []
  | a :: L, k => List.replicate a ((k : Int) + 1) ++ lettersE L (k + 1)
theorem lettersE_length : ∀ (L : List Nat) (k : Nat), (lettersE L k).length = L.sum := by
  intro L
  induction L with
  | nil => intro k; rfl
  | cons a L ih => intro k; simp [lettersE, ih]
theorem lettersE_mem : ∀ (L : List Nat) (k : Nat), ∀ x ∈ lettersE L k, (k : Int) + 1 ≤ x ∧ x ≤ (k : Int) + L.length := by
  intro L
  induction L with
  | nil => intro k x h; simp [lettersE] at h
  | cons a L ih =>
    intro k x h
    rw [lettersE, List.mem_append] at h
    rcases h with h | h
    · have := (List.mem_replicate.1 h).2; simp; omega
    · have := ih (k + 1) x h; simp; omega
theorem lettersE_snoc : ∀ (L : List Nat) (a k : Nat), lettersE (L ++ [a]) k = lettersE L k ++ List.replicate a (((k + L.length : Nat) : Int) + 1) := by
  intro L
  induction L with
  | nil => intro a k; simp [lettersE]
  | cons b L ih =>
    intro a k
    rw [List.cons_append, lettersE, ih, lettersE, List.append_assoc]
    congr 4
    simp; omega
/-- The letters of a tree. -/
def Tr.letters (t : Tr) : List Int := lettersE t.expR 0
theorem letters_length (t : Tr) : t.letters.length ≤ t.carets := by unfold Tr.letters; rw [lettersE_length]; exact expR_sum t
theorem letters_mem (t : Tr) : ∀ x ∈ t.letters, 1 ≤ x ∧ x ≤ (t.carets : Int) + 1 := by
  intro x h
  have := lettersE_mem _ _ x h
  rw [expR_length] at this
  simp at this; omega
/-- The normal word of a reduced pair of trees. -/
def wordT (a b : Tr) : List Int := a.letters ++ invW b.letters
theorem wordT_good {a b : Tr} (h : a.carets ≤ 8) (k : b.carets ≤ 8) : goodW (wordT a b) = true := by
  rw [goodW_iff]
  have h1 := letters_length a
  have h2 := letters_length b
  refine ⟨by unfold wordT; rw [List.length_append, invW_length]; omega, fun x hx => ?_⟩
  rcases List.mem_append.1 hx with hx | hx
  · have := letters_mem a x hx; omega
  · unfold invW at hx
    rw [List.mem_reverse, List.mem_map] at hx
    obtain ⟨y, hy, rfl⟩ := hx
    have := letters_mem b y hy; omega

/-- The letters of x(0), x(1) that stand for one. -/
def twoL (x : Int) : List Int :=
  if num x = 0 then [x] else List.replicate (num x - 1).toNat (-1) ++ ((if 0 < x then 2 else -2) :: List.replicate (num x - 1).toNat 1)
def twoW (w : List Int) : List Int := w.flatMap twoL
def twoO (w : List Int) : Option (List Int) := if goodW w = true then if (twoW w).length ≤ 300 then some (freeW (twoW w)) else none else none
theorem twoL_length {x : Int} (_h : x ≠ 0) (h1 : -21 ≤ x) (h2 : x ≤ 21) : (twoL x).length ≤ 39 := by
  unfold twoL
  split
  · simp
  · simp only [List.length_append, List.length_replicate, List.length_cons]
    unfold num at *
    split <;> omega
theorem twoW_length {w : List Int} (h : goodW w = true) : (twoW w).length ≤ 39 * w.length := by
  have hm := (goodW_iff.1 h).2
  clear h
  induction w with
  | nil => simp [twoW]
  | cons x w ih =>
    have h1 := hm x (by simp)
    have h2 := twoL_length h1.1 h1.2.1 h1.2.2
    have h3 := ih (fun y hy => hm y (by simp [hy]))
    have h4 : twoW (x :: w) = twoL x ++ twoW w := rfl
    rw [h4, List.length_append, List.length_cons]; omega

end Go.Proofs.Ytlcepokenaiggab
