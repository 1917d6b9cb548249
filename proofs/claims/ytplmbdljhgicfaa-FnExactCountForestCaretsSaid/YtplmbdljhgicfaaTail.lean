/- Walks: what the laws do with slices of integers: eqIntS, markIntS, heldIntS. -/
import Derived.Test.YtplmbdljhgicfaaRow
import Derived.Test.YtplmbdljhgicfaaQuiet
namespace Go.Proofs.Ytplmbdljhgicfaa
open Go.RowKit

theorem CellsI.len {base : Nat} {w : World} {v : Value} {xs : List Int} (h : CellsI base w v xs) : (xs.length : Int) ≤ 9223372036854775807 := by
  rcases h with ⟨_, rfl⟩ | ⟨g, cap, _, _, _, h1, h2, _⟩
  · simp
  · unfold maxLen at h2; omega

theorem CellsI.drewN {base : Nat} {w : World} {v : Value} {xs : List Int} (h : CellsI base w v xs) (n : Nat) : CellsI base (w.drewN n) v xs := h

/-- k, k + 1, .. : n numbers. -/
def marks (k : Int) (n : Nat) : List Int := (List.range n).map fun (i : Nat) => k + (i : Int)
theorem marks_length (k : Int) (n : Nat) : (marks k n).length = n := by simp [marks]
theorem marks_getD (k : Int) {n i : Nat} (h : i < n) : (marks k n).getD i 0 = k + i := by simp [marks, h]

theorem marks_set (k : Int) (xs : List Int) (j : Nat) (h : j < xs.length) : (marks k j ++ xs.drop j).set j (k + j) = marks k (j + 1) ++ xs.drop (j + 1) := by
  have hm := marks_length k j
  have e1 : marks k (j + 1) = marks k j ++ [k + j] := by simp [marks, List.range_succ]
  rw [List.set_append_right _ _ (by omega), hm, Nat.sub_self, e1, List.append_assoc]
  congr 1
  rw [List.drop_eq_getElem_cons h]
  rfl

theorem OwnI.set {base : Nat} {w : World} {g cap : Nat} {xs : List Int} {n : Nat} (hn : xs.length = n) (h : OwnI base w (.slice (some ⟨g, 0, none⟩) n cap) xs) (j : Nat) (m : Int) :
    OwnI base (w.setCell ⟨g, j, none⟩ (.int .i64 m)) (.slice (some ⟨g, 0, none⟩) n cap) (xs.set j m) := by
  unfold OwnI at *
  subst hn
  rw [List.length_set, List.map_set]
  exact (World.ownsRow.stored h j _).1

/-- A call that hands back a number, and leaves the slice v with other numbers. -/
def Marked (base : Nat) (r : Int) (v : Value) (xs : List Int) (w : World) (e : Ending) (w' : World) : Prop := e = .returned (.int .i64 r) ∧ OwnI base w' v xs ∧ Below base w w'

end Go.Proofs.Ytplmbdljhgicfaa
