/- Walks: spec.l1Own. -/
import Derived.Test.YtkoebmdocenlkabSrc
import Derived.Test.YtkoebmdocenlkabRow
import Derived.Test.YtkoebmdocenlkabRowS
namespace Go.Proofs.Ytkoebmdocenlkab
open Go.RowKit

/-- A call that hands back a slice in a block of the call's own. -/
def GivesBlk (L : List Int) (w : World) (e : Ending) (w' : World) : Prop :=
  ∃ g cap, OwnI w.heap.size w' (.slice (some ⟨g, 0, none⟩) L.length cap) L ∧ Below w.heap.size w w' ∧ e = .returned (.slice (some ⟨g, 0, none⟩) L.length cap)
set_option maxRecDepth 100000 in
set_option maxHeartbeats 2000000 in
theorem l1Own_any (u : Value) (L : List Int) (w : World) (hs : SrcV w u (L.map (Value.int .i64))) (hn : L.length ≤ 1000) :
    Calls Try.prog 79 #[u] w (GivesBlk L w) := by
  obtain ⟨i0, hi, hz0, hz1, hz2⟩ := info_parts info_int
  have hown := ownsRow_empty w 3
  have hsA := hs.keep ((Below.refl w.heap.size w).alloc (Nat.le_refl _) (.cells #[] 3 (0, 0)))
  have hlen : (L.map (Value.int .i64)).length = L.length := by simp
  have h1 : ∀ y ∈ L.map (Value.int .i64), y.oneCell' = true := by
    intro y hy
    rw [List.mem_map] at hy
    obtain ⟨k, _, rfl⟩ := hy
    rfl
  clear hs
  go_enter Try.func79, Try.ntmps79
  go_wp2_with (at_builtin; refine wpList_appSrc rfl _ _ 47 rfl w.heap.size 3 i0 (.int .i64 0) 8 Try.underlying47 hi hz0 hz1 hz2 rfl _ 0 _ rfl hown _ _ rfl hsA h1 (by rw [hlen]; unfold maxLen; omega) (by rw [hlen]; omega) (by simp) ?_; intro v' w1 hown1 hb1 hnn)
  have hb1' := ((Below.refl w.heap.size w).alloc (Nat.le_refl _) _).trans hb1
  rw [hlen, Nat.zero_add, List.nil_append] at hown1
  obtain ⟨g, cap, rfl, hg⟩ := row_shape hown1 (fun h => by have := hnn h; cases this)
  go_wp2_with fail
  go_ret
  exact ⟨g, cap, hown1, hb1', rfl⟩
end Go.Proofs.Ytkoebmdocenlkab
