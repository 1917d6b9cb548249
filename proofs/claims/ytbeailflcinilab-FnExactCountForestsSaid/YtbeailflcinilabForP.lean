/- How many lists of trees there are, as the spec counts them. No program is named here. -/
import Derived.Test.YtbeailflcinilabCountP
namespace Go.Proofs.Ytbeailflcinilab

/-- The sum of the first k terms. -/
def sumN (f : Nat → Nat) : Nat → Nat
  | 0 => 0
  | k + 1 => sumN f k + f k

/-- How many lists of so many trees have so many carets, tree by tree. -/
def forN : Nat → Nat → Nat
  | 0, c => if c = 0 then 1 else 0
  | t + 1, c => sumN (fun k => catN k * forN t (c - k)) (c + 1)

/-- A table of them: row t. -/
def rowN : Nat → List Nat
  | 0 => [1, 0, 0, 0, 0, 0, 0, 0, 0]
  | t + 1 => (List.range 9).map fun c => sumN (fun k => catN k * (rowN t).getD (c - k) 0) (c + 1)

theorem sumN_congr {f g : Nat → Nat} : ∀ {k : Nat}, (∀ i, i < k → f i = g i) → sumN f k = sumN g k := by
  intro k
  induction k with
  | zero => intro _; rfl
  | succ k ih => intro h; rw [sumN, sumN, ih (fun i hi => h i (by omega)), h k (by omega)]

theorem forN_row (t : Nat) : ∀ c, c ≤ 8 → forN t c = (rowN t).getD c 0 := by
  induction t with
  | zero =>
    intro c hc
    rw [forN]
    match c, hc with
    | 0, _ => rfl
    | 1, _ => rfl
    | 2, _ => rfl
    | 3, _ => rfl
    | 4, _ => rfl
    | 5, _ => rfl
    | 6, _ => rfl
    | 7, _ => rfl
    | 8, _ => rfl
  | succ t ih =>
    intro c hc
    rw [forN, rowN]
    have h : c < ((List.range 9).map fun c => sumN (fun k => catN k * (rowN t).getD (c - k) 0) (c + 1)).length := by simp; omega
    rw [List.getD_eq_getElem?_getD, List.getElem?_eq_getElem h, List.getElem_map, List.getElem_range]
    exact sumN_congr fun i hi => by rw [ih (c - i) (by omega)]

theorem row_lists : ∀ t, t ≤ 9 → 1 ≤ t → ∀ c, c ≤ 8 → (rowN t).getD c 0 = listsN t c := by decide +kernel
theorem forN_eq (t c : Nat) (h1 : 1 ≤ t) (h2 : t ≤ 9) (hc : c ≤ 8) : forN t c = listsN t c := by
  rw [forN_row t c hc, row_lists t h2 h1 c hc]
theorem forN_zero (t : Nat) : ∀ c, c ≤ 8 → t ≤ 9 → forN t c ≤ 1000000 := by
  intro c hc ht
  rw [forN_row t c hc]
  have : ∀ t, t ≤ 9 → ∀ c, c ≤ 8 → (rowN t).getD c 0 ≤ 1000000 := by decide +kernel
  exact this t ht c hc
end Go.Proofs.Ytbeailflcinilab
