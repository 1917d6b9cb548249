/- The left leaves of exposed carets in a text. No program is named here. -/
import Derived.Test.YtllnfbenaeeloacDots
namespace Go.Proofs.Ytllnfbenaeeloac

/-- Does a text begin with an exposed caret? -/
def expB (l : List UInt8) : Bool := l.take 4 == [40, 46, 46, 41]

/-- The left leaves of the exposed carets of a text, n leaves being in front of it. -/
def exL : List UInt8 → Int → List Int
  | [], _ => []
  | c :: r, n => (if expB (c :: r) then [n] else []) ++ exL r (if c = 46 then n + 1 else n)

theorem exL_length : ∀ (l : List UInt8) (n : Int), (exL l n).length ≤ l.length := by
  intro l
  induction l with
  | nil => intro n; simp [exL]
  | cons c r ih => intro n; have := ih (if c = 46 then n + 1 else n); rw [exL]; simp only [List.length_append, List.length_cons]; split <;> simp <;> omega

/-- What the spec's scan, which looks one byte back, has still to tell at index k. -/
def pend (l : List UInt8) (k : Nat) (n : Int) : List Int := if 0 < k ∧ expB (l.drop (k - 1)) = true then [n] else []

theorem expB_cons {c : UInt8} {r : List UInt8} (h : expB (c :: r) = true) : c = 40 ∧ 3 ≤ r.length := by
  unfold expB at h
  simp only [beq_iff_eq] at h
  have h1 := congrArg List.length h
  have h2 := congrArg List.head? h
  simp at h1 h2
  exact ⟨h2, by omega⟩

theorem exL_step {l r : List UInt8} {k : Nat} {c : UInt8} {n : Int} (h : l.drop k = c :: r) :
    exL (l.drop k) n = pend l (k + 1) (if c = 46 then n + 1 else n) ++ exL (l.drop (k + 1)) (if c = 46 then n + 1 else n) := by
  have hr : l.drop (k + 1) = r := drop_succ h
  rw [hr, h, exL]
  congr 1
  unfold pend
  rw [Nat.add_sub_cancel, h]
  cases hb : expB (c :: r) with
  | false => simp
  | true =>
    have := (expB_cons hb).1
    subst this
    simp

theorem expB_extract (s : ByteArray) (k : Nat) (h : 0 < k) : expB (s.data.toList.drop (k - 1)) = ((s.extract (k - 1) (k + 3)).toList == [40, 46, 46, 41]) := by
  unfold expB
  rw [Lib.extract_toList]
  have : k + 3 - (k - 1) = 4 := by omega
  rw [this]

theorem expB_here (s : ByteArray) (k : Nat) : expB (s.data.toList.drop k) = ((s.data.toList.drop k).take 4 == [40, 46, 46, 41]) := rfl

theorem expB_drop {l : List UInt8} {k : Nat} (h : expB (l.drop k) = true) : k + 4 ≤ l.length := by
  cases hd : l.drop k with
  | nil => rw [hd] at h; simp [expB] at h
  | cons c r =>
    rw [hd] at h
    have := (expB_cons h).2
    have := congrArg List.length hd
    simp at this
    omega

theorem pend_zero (l : List UInt8) (n : Int) : pend l 0 n = [] := by simp [pend]

end Go.Proofs.Ytllnfbenaeeloac
