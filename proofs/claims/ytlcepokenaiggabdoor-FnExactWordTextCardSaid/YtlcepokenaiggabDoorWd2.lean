/- Walks: FreeReduce, ShiftWord of both sides, without their guards. -/
import Derived.Test.YtlcepokenaiggabDoorWd1
import Derived.IntWalk
namespace Go.Proofs.YtlcepokenaiggabDoor
open Go.RowKit

theorem OwnI.cut {base : Nat} {w : World} {oa : Option Addr} {m cap : Nat} {xs : List Int} (h : OwnI base w (.slice oa m cap) xs) (n : Nat) (hn : n ≤ xs.length) (hm : xs.length = m) : OwnI base w (.slice oa n cap) (xs.take n) := by
  obtain ⟨h1, h2⟩ := h
  have hl : (xs.take n).length = n := by rw [List.length_take]; omega
  unfold OwnI
  rw [hl]
  refine ⟨by simp; omega, ?_⟩
  rcases h2 with ⟨hv, hn0⟩ | ⟨g, cap', cur, hv, hb, hh, r1, r2, r3, r4⟩
  · cases hv
    obtain rfl : n = 0 := by omega
    exact .inl ⟨rfl, rfl⟩
  · cases hv
    refine .inr ⟨g, cap, cur, rfl, hb, hh, by omega, r2, r3, ?_⟩
    rw [List.map_take, ← r4, List.take_take, Nat.min_eq_left (by omega), Nat.mul_one]


end Go.Proofs.YtlcepokenaiggabDoor
