/- Walk: slices.Repeat of one number. -/
import Derived.Test.YtlcepokenaiggabRepM
import Derived.Test.YtlcepokenaiggabForm
import Derived.Test.YtlcepokenaiggabSrc
import Derived.Laws.CopyOwn
import Derived.Laws.MakeOwn
import Derived.Deep.RegionLaw
namespace Go.Proofs.Ytlcepokenaiggab
open Go.RowKit

/-- The first m cells of a row are all X. -/
def allX (X : Value) (m : Nat) (c : List Value) : Prop := c.take m = List.replicate m X
theorem allX_splice {X : Value} {m k : Nat} {c : List Value} (h : allX X m c) : allX X (m + k) (splice c m (List.replicate k X)) := by
  unfold allX splice at *
  rw [h, ← List.append_assoc, List.replicate_append_replicate, List.take_left' (by simp)]
theorem allX_at {X : Value} {m j : Nat} {c : List Value} (h : allX X m c) (hj : j < m) : c[j]? = some X := by
  have e : (c.take m)[j]? = some X := by rw [h]; simp [hj]
  rwa [List.getElem?_take_of_lt hj] at e
theorem cell_of_block {w : World} {g j : Nat} {c : List Value} {t : TypeId} {X : Value} (h : w.heap[g]? = some (.cells c.toArray t (0, 0))) (hj : c[j]? = some X) : w.cell? ⟨g, j, none⟩ = some X := by
  unfold World.cell?
  rw [h]
  simpa using hj

/-- A call that hands back so many cells of one number, in a new block. -/
def GivesRep (x : Int) (n : Nat) (w : World) (e : Ending) (w' : World) : Prop :=
  ∃ g : Nat, OwnI w.heap.size w' (.slice (some ⟨g, 0, none⟩) n n) (List.replicate n x) ∧ Below w.heap.size w w' ∧ e = .returned (.slice (some ⟨g, 0, none⟩) n n)

theorem own_of_block {w : World} {B g n : Nat} {c : List Value} {x : Int} (h : w.heap[g]? = some (.cells c.toArray 3 (0, 0))) (hB : B ≤ g) (hl : c.length = n) (hn : n ≤ 1000000) (ha : allX (.int .i64 x) n c) :
    OwnI B w (.slice (some ⟨g, 0, none⟩) n n) (List.replicate n x) := by
  unfold OwnI
  rw [List.length_replicate]
  refine ⟨by simp, .inr ⟨g, n, c.toArray, rfl, hB, h, Nat.le_refl _, by unfold maxLen; omega, by simp [hl], ?_⟩⟩
  unfold allX at ha
  simp only [Nat.mul_one]
  rw [ha]
  simp

end Go.Proofs.Ytlcepokenaiggab
