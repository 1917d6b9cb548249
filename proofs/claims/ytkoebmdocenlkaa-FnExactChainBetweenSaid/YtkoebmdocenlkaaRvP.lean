/- A list turned round by swaps from both ends. No program is named here. -/
import Derived.WalkKit
namespace Go.Proofs.Ytkoebmdocenlkaa
def revI (L : List Nat) (i : Nat) : List Nat := (List.range L.length).map fun p => if p < i ∨ L.length - i ≤ p then L.getD (L.length - 1 - p) 0 else L.getD p 0
theorem revI_length (L : List Nat) (i : Nat) : (revI L i).length = L.length := by simp [revI]
theorem revI_getD (L : List Nat) (i : Nat) {p : Nat} (h : p < L.length) : (revI L i).getD p 0 = if p < i ∨ L.length - i ≤ p then L.getD (L.length - 1 - p) 0 else L.getD p 0 := by
  simp [revI, List.getD_eq_getElem?_getD, h]
theorem revI_zero (L : List Nat) : revI L 0 = L := by
  apply List.ext_getElem (by simp [revI])
  intro p h1 h2
  simp [revI, h2]
  intro h; omega
theorem revI_end (L : List Nat) {i : Nat} (h : L.length ≤ 2 * i + 1) : revI L i = L.reverse := by
  apply List.ext_getElem (by simp [revI])
  intro p h1 h2
  have hp : p < L.length := by simpa using h2
  rw [List.getElem_reverse]
  simp only [revI, List.getElem_map, List.getElem_range]
  split
  · rw [List.getD_eq_getElem?_getD, List.getElem?_eq_getElem (by omega)]; rfl
  · next hn =>
    have e : L.length - 1 - p = p := by omega
    rw [List.getD_eq_getElem?_getD, List.getElem?_eq_getElem hp, Option.getD_some]
    congr 1
    omega
theorem revI_step (L : List Nat) {i : Nat} (h : 2 * i + 1 < L.length) : ((revI L i).set i ((revI L i).getD (L.length - 1 - i) 0)).set (L.length - 1 - i) ((revI L i).getD i 0) = revI L (i + 1) := by
  have e1 := revI_getD L i (p := i) (by omega)
  have e2 := revI_getD L i (p := L.length - 1 - i) (by omega)
  rw [if_neg (by omega)] at e1 e2
  rw [e1, e2]
  apply List.ext_getElem (by simp [revI])
  intro p h1 h2
  have hp : p < L.length := by simpa [revI] using h2
  rw [List.getElem_set, List.getElem_set]
  simp only [revI, List.getElem_map, List.getElem_range]
  by_cases hj : L.length - 1 - i = p
  · rw [if_pos hj, if_pos (by omega)]
    congr 1; omega
  · rw [if_neg hj]
    by_cases hi : i = p
    · rw [if_pos hi, if_pos (by omega)]
      subst hi; rfl
    · rw [if_neg hi]
      by_cases hx : p < i ∨ L.length - i ≤ p
      · rw [if_pos hx, if_pos (by omega)]
      · rw [if_neg hx, if_neg (by omega)]
end Go.Proofs.Ytkoebmdocenlkaa
