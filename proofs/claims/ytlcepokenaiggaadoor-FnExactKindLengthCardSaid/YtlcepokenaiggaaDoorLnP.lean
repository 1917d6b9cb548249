/- Lengths by kinds of carets as plain data. No program is named here. -/
import Derived.Test.YtlcepokenaiggaaDoorKiP
import Derived.Test.YtlcepokenaiggaaDoorPairOf
namespace Go.Proofs.YtlcepokenaiggaaDoor

/-- The row of a kind in the table, or -1. -/
def rowK (s : ByteArray) : Int := if s = sR0 then 0 else if s = sRN then 1 else if s = sRI then 2 else if s = sLL then 3 else if s = sI0 then 4 else if s = sIR then 5 else -1
/-- The table, row by row. -/
def tabK : List Int := [0, 2, 2, 1, 1, 3, 2, 2, 2, 1, 1, 3, 2, 2, 2, 1, 3, 3, 1, 1, 1, 2, 2, 2, 1, 1, 3, 2, 2, 4, 3, 3, 3, 2, 4, 4]
def lenO (a b : ByteArray) : Option Int :=
  if a = sL0 ∧ b = sL0 then some 0
  else if rowK a < 0 ∨ rowK b < 0 then none
  else some (tabK.getD ((rowK a).toNat * 6 + (rowK b).toNat) 0)
def lenV (a b : ByteArray) : Int := (lenO a b).getD 0
/-- The sum over the first j carets. -/
def lenU (l m : List ByteArray) : Nat → Int
  | 0 => 0
  | j + 1 => lenU l m j + lenV (l.getD j ⟨#[]⟩) (m.getD j ⟨#[]⟩)
def lenP (p : Pr) : Int := lenU p.1.kinds p.2.kinds p.1.kinds.length

theorem rowK_range (s : ByteArray) : -1 ≤ rowK s ∧ rowK s ≤ 5 := by
  unfold rowK
  repeat' split
  all_goals omega
theorem tabK_range (i : Nat) : 0 ≤ tabK.getD i 0 ∧ tabK.getD i 0 ≤ 4 := by
  by_cases h : i < 36
  · have : ∀ i : Fin 36, 0 ≤ tabK.getD i.1 0 ∧ tabK.getD i.1 0 ≤ 4 := by decide
    exact this ⟨i, h⟩
  · rw [List.getD_eq_getElem?_getD, List.getElem?_eq_none (by show 36 ≤ i; omega)]
    simp
theorem lenO_range {a b : ByteArray} {n : Int} (h : lenO a b = some n) : 0 ≤ n ∧ n ≤ 4 := by
  unfold lenO at h
  split at h
  · cases h; omega
  · split at h
    · cases h
    · cases h; exact tabK_range _
theorem lenV_range (a b : ByteArray) : 0 ≤ lenV a b ∧ lenV a b ≤ 4 := by
  unfold lenV
  cases h : lenO a b with
  | none => simp
  | some n => exact lenO_range h
theorem lenU_range (l m : List ByteArray) : ∀ j, 0 ≤ lenU l m j ∧ lenU l m j ≤ 4 * j := by
  intro j
  induction j with
  | zero => simp [lenU]
  | succ j ih => have := lenV_range (l.getD j ⟨#[]⟩) (m.getD j ⟨#[]⟩); rw [lenU]; omega
theorem lenP_range (p : Pr) : 0 ≤ lenP p ∧ lenP p ≤ 4 * p.1.carets := by
  have := lenU_range p.1.kinds p.2.kinds p.1.kinds.length
  rw [kinds_length] at this
  unfold lenP
  rw [kinds_length]
  exact this
/-- The index in the list of all kinds but L0. -/
theorem rowK_at (s : ByteArray) : (rowK s < 0 → ∀ k ∈ [sR0, sRN, sRI, sLL, sI0, sIR], k ≠ s) ∧ (0 ≤ rowK s → [sR0, sRN, sRI, sLL, sI0, sIR].getD (rowK s).toNat ⟨#[]⟩ = s ∧ ∀ j, j < (rowK s).toNat → [sR0, sRN, sRI, sLL, sI0, sIR].getD j ⟨#[]⟩ ≠ s) := by
  by_cases h0 : s = sR0
  · subst h0
    exact ⟨by decide, fun _ => ⟨by decide, by decide⟩⟩
  by_cases h1 : s = sRN
  · subst h1
    exact ⟨by decide, fun _ => ⟨by decide, by decide⟩⟩
  by_cases h2 : s = sRI
  · subst h2
    exact ⟨by decide, fun _ => ⟨by decide, by decide⟩⟩
  by_cases h3 : s = sLL
  · subst h3
    exact ⟨by decide, fun _ => ⟨by decide, by decide⟩⟩
  by_cases h4 : s = sI0
  · subst h4
    exact ⟨by decide, fun _ => ⟨by decide, by decide⟩⟩
  by_cases h5 : s = sIR
  · subst h5
    exact ⟨by decide, fun _ => ⟨by decide, by decide⟩⟩
  have hr : rowK s = -1 := by simp [rowK, h0, h1, h2, h3, h4, h5]
  rw [hr]
  refine ⟨fun _ k hk e => ?_, fun h => absurd h (by omega)⟩
  simp at hk
  rcases hk with rfl | rfl | rfl | rfl | rfl | rfl
  · exact h0 e.symm
  · exact h1 e.symm
  · exact h2 e.symm
  · exact h3 e.symm
  · exact h4 e.symm
  · exact h5 e.symm
end Go.Proofs.YtlcepokenaiggaaDoor
