/- Walk: impl.lettersOfTwo. -/
import Derived.Test.YtlcepokenaiggabCat
import Derived.Test.YtlcepokenaiggabRep
import Derived.Test.YtlcepokenaiggabWdR
import Derived.Test.YtlcepokenaiggabWd4n
import Derived.Test.YtlcepokenaiggabWd3
namespace Go.Proofs.Ytlcepokenaiggab
open Go.RowKit

theorem OwnI.lone (w : World) (s : Int) : OwnI w.heap.size (w.alloc (.cells #[.int .i64 s] 3 (0, 0))) (.slice (some ⟨w.heap.size, 0, none⟩) 1 1) [s] := by
  refine ⟨rfl, .inr ⟨w.heap.size, 1, #[.int .i64 s], rfl, Nat.le_refl _, ?_, Nat.le_refl _, by unfold maxLen; omega, rfl, rfl⟩⟩
  show (w.heap.push _)[w.heap.size]? = _
  simp
theorem cell_new1 (w : World) (v : Value) (e : TypeId) : (w.alloc (.cells #[v] e)).cell? ⟨w.heap.size, 0, none⟩ = some v := by
  have h := new1 w v e 0 v rfl
  rwa [addr_add] at h
theorem src_own {base g n cap : Nat} {w : World} {xs : List Int} (h : OwnI base w (.slice (some ⟨g, 0, none⟩) n cap) xs) (hn : xs.length = n) : SrcI w (.slice (some ⟨g, 0, none⟩) n cap) xs := by
  subst hn
  refine SrcI.of ?_
  have h' := src_take h xs.length (Nat.le_refl _) cap
  rwa [List.take_of_length_le (by simp)] at h'
theorem src_one (w : World) (m : Int) : SrcI (w.alloc (.cells #[.int .i64 m] 3)) (.slice (some ⟨w.heap.size, 0, none⟩) 1 1) [m] :=
  SrcI.of (.inr ⟨_, 1, rfl, new1 _ _ _⟩)
theorem parts3 (w : World) (t : TypeId) (a b c : Value) (A B C : List Int) (ha : SrcI w a A) (hb : SrcI w b B) (hc : SrcI w c C) : Parts (w.alloc (.cells #[a, b, c] t)) w.heap.size [a, b, c] [A, B, C] := by
  have hk : Below w.heap.size w (w.alloc (.cells #[a, b, c] t)) := (Below.refl _ w).alloc (Nat.le_refl _) _
  have hc0 : ∀ (j : Nat) (u : Value), [a, b, c][j]? = some u → (w.alloc (.cells #[a, b, c] t)).cell? ⟨w.heap.size, j, none⟩ = some u := by
    intro j u hj
    unfold World.cell?
    rw [show (w.alloc (.cells #[a, b, c] t)).heap[w.heap.size]? = some (.cells #[a, b, c] t (0, 0)) by show (w.heap.push _)[w.heap.size]? = _; simp]
    simpa using hj
  refine ⟨by simp, rfl, fun i hi => ?_⟩
  have hi' : i < 3 := hi
  match i, hi' with
  | 0, _ => exact ⟨hc0 0 a rfl, ha.keep hk⟩
  | 1, _ => exact ⟨hc0 1 b rfl, hb.keep hk⟩
  | 2, _ => exact ⟨hc0 2 c rfl, hc.keep hk⟩

end Go.Proofs.Ytlcepokenaiggab
