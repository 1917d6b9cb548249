/- Plain functions: what the Go texts of chapter 1 compute. No program is named here. -/
import Derived.WalkKit
namespace Go.Proofs.Ytllnfbenaeeloac

/-- The byte at an index of a text (0 behind its end). -/
def byteAt (s : ByteArray) (a : Int) : Int := if h : a.toNat < s.size then ((s[a.toNat]'h).toNat : Int) else 0

theorem byteAt_eq (s : ByteArray) (a : Int) (h : a.toNat < s.size) : byteAt s a = ((s[a.toNat]'h).toNat : Int) := by unfold byteAt; rw [dif_pos h]

/-- The index behind the tree at an index, or -1 (k: the depth that is left). -/
def endI : Nat → ByteArray → Int → Int
  | 0, _, _ => -1
  | k + 1, s, a =>
    if a < s.size then
      if byteAt s a = 46 then a + 1
      else if byteAt s a ≠ 40 then -1
      else if endI k s (a + 1) < 0 then -1
      else if endI k s (endI k s (a + 1)) < 0 then -1
      else if (s.size : Int) ≤ endI k s (endI k s (a + 1)) then -1
      else if byteAt s (endI k s (endI k s (a + 1))) ≠ 41 then -1
      else endI k s (endI k s (a + 1)) + 1
    else -1

theorem endI_le (k : Nat) : ∀ (s : ByteArray) (a : Int), 0 ≤ a → -1 ≤ endI k s a ∧ endI k s a ≤ s.size := by
  induction k with
  | zero => intro s a _; simp [endI]
  | succ k ih =>
    intro s a ha
    have h1 := ih s (a + 1) (by omega)
    have h2 := fun h => ih s (endI k s (a + 1)) h
    rw [endI]
    repeat' split
    all_goals first | omega | (have := h2 (by omega); omega)

/-- How many of the first k bytes are carets' beginnings. -/
def cnt (s : ByteArray) : Nat → Int
  | 0 => 0
  | k + 1 => cnt s k + if byteAt s k = 40 then 1 else 0

theorem cnt_le (s : ByteArray) (k : Nat) : 0 ≤ cnt s k ∧ cnt s k ≤ k := by
  induction k with
  | zero => simp [cnt]
  | succ k ih => rw [cnt]; split <;> omega

/-- The text is a tree, as the spec tells it. -/
def isTreeB (s : ByteArray) : Bool := decide ((s.size : Int) ≤ 33) && decide (cnt s s.size ≤ 8) && endI 61 s 0 == (s.size : Int)

theorem isTreeB_size {s : ByteArray} (h : isTreeB s = true) : s.size ≤ 33 := by
  unfold isTreeB at h; simp at h; omega

end Go.Proofs.Ytllnfbenaeeloac
