/- Walks: spec.wdRule. -/
import Derived.Test.YtlcepokenaiggabWdQ
import Derived.Test.YtlcepokenaiggabRow
import Derived.Test.YtlcepokenaiggabRowS
import Derived.Laws.OwnMore
namespace Go.Proofs.Ytlcepokenaiggab
open Go.RowKit

set_option maxRecDepth 100000 in
set_option maxHeartbeats 2000000 in
theorem wdRule_any (x y : Int) (w : World) (hx : -1000 ≤ x) (hx2 : x ≤ 1000) (hy : -1000 ≤ y) (hy2 : y ≤ 1000) :
    Calls Try.prog 31 #[.int .i64 x, .int .i64 y] w (AnsI2 ((ruleO x y).getD []) (ruleO x y).isSome w) := by
  by_cases c1 : x = -y
  · rw [show ruleO x y = some [] by unfold ruleO; rw [if_pos c1]]
    have e1 : (x == -y) = true := by simp [c1]
    go_enter Try.func31, Try.ntmps31
    go_wp2_with fail
    go_ret2
    exact ⟨_, OwnI.nil _ _, Below.refl _ _, rfl⟩
  have e1 : (x == -y) = false := by simp [c1]
  by_cases c2 : x > 0 ∧ y > 0 ∧ y < x
  · rw [show ruleO x y = some [y, x + 1] by unfold ruleO; rw [if_neg c1, if_pos c2]]
    obtain ⟨d1, d2, d3⟩ := c2
    clear c1
    have hl := World.ownsRow_lit (base := w.heap.size) (e := 3) (size := 1) w #[.int .i64 (y), .int .i64 (x + 1)] 2 (Nat.le_refl _) (by unfold maxLen; omega) rfl
    go_enter Try.func31, Try.ntmps31
    go_wp2_with fail
    go_ret2
    exact ⟨_, hl, nxAlloc (Below.refl _ _) _, rfl⟩
  by_cases c3 : x < 0 ∧ y < 0 ∧ -x < -y
  · rw [show ruleO x y = some [y - 1, x] by unfold ruleO; rw [if_neg c1, if_neg c2, if_pos c3]]
    obtain ⟨d1, d2, d3⟩ := c3
    clear c1 c2
    have hl := World.ownsRow_lit (base := w.heap.size) (e := 3) (size := 1) w #[.int .i64 (y - 1), .int .i64 (x)] 2 (Nat.le_refl _) (by unfold maxLen; omega) rfl
    go_enter Try.func31, Try.ntmps31
    go_wp2_with fail
    go_ret2
    exact ⟨_, hl, nxAlloc (Below.refl _ _) _, rfl⟩
  by_cases c4 : x < 0 ∧ 0 < y ∧ -x < y
  · rw [show ruleO x y = some [y + 1, x] by unfold ruleO; rw [if_neg c1, if_neg c2, if_neg c3, if_pos c4]]
    obtain ⟨d1, d2, d3⟩ := c4
    clear c1 c2 c3
    have hl := World.ownsRow_lit (base := w.heap.size) (e := 3) (size := 1) w #[.int .i64 (y + 1), .int .i64 (x)] 2 (Nat.le_refl _) (by unfold maxLen; omega) rfl
    go_enter Try.func31, Try.ntmps31
    go_wp2_with fail
    go_ret2
    exact ⟨_, hl, nxAlloc (Below.refl _ _) _, rfl⟩
  by_cases c5 : x < 0 ∧ 0 < y ∧ y < -x
  · rw [show ruleO x y = some [y, x - 1] by unfold ruleO; rw [if_neg c1, if_neg c2, if_neg c3, if_neg c4, if_pos c5]]
    obtain ⟨d1, d2, d3⟩ := c5
    clear c1 c2 c3 c4
    have hl := World.ownsRow_lit (base := w.heap.size) (e := 3) (size := 1) w #[.int .i64 (y), .int .i64 (x - 1)] 2 (Nat.le_refl _) (by unfold maxLen; omega) rfl
    go_enter Try.func31, Try.ntmps31
    go_wp2_with fail
    go_ret2
    exact ⟨_, hl, nxAlloc (Below.refl _ _) _, rfl⟩
  rw [show ruleO x y = none by unfold ruleO; rw [if_neg c1, if_neg c2, if_neg c3, if_neg c4, if_neg c5]]
  show Calls _ _ _ _ (AnsI2 [] false w)
  by_cases hx0 : 0 < x
  · by_cases hy0 : 0 < y
    · have d : ¬ y < x := by omega
      have d2 : ¬ x < 0 := by omega
      clear c1 c2 c3 c4 c5
      go_enter Try.func31, Try.ntmps31
      go_wp2_with fail
      go_ret2
      exact ⟨_, OwnI.nil _ _, Below.refl _ _, rfl⟩
    · have d2 : ¬ x < 0 := by omega
      clear c1 c2 c3 c4 c5
      go_enter Try.func31, Try.ntmps31
      go_wp2_with fail
      go_ret2
      exact ⟨_, OwnI.nil _ _, Below.refl _ _, rfl⟩
  · by_cases hx1 : x < 0
    · by_cases hy0 : 0 < y
      · have d : ¬ -x < y := by omega
        have d2 : ¬ y < -x := by omega
        have d3 : ¬ y < 0 := by omega
        clear c1 c2 c3 c4 c5
        go_enter Try.func31, Try.ntmps31
        go_wp2_with fail
        go_ret2
        exact ⟨_, OwnI.nil _ _, Below.refl _ _, rfl⟩
      · by_cases hy1 : y < 0
        · have d : ¬ -x < -y := by omega
          clear c1 c2 c3 c4 c5
          go_enter Try.func31, Try.ntmps31
          go_wp2_with fail
          go_ret2
          exact ⟨_, OwnI.nil _ _, Below.refl _ _, rfl⟩
        · clear c1 c2 c3 c4 c5
          go_enter Try.func31, Try.ntmps31
          go_wp2_with fail
          go_ret2
          exact ⟨_, OwnI.nil _ _, Below.refl _ _, rfl⟩
    · clear c1 c2 c3 c4 c5
      go_enter Try.func31, Try.ntmps31
      go_wp2_with fail
      go_ret2
      exact ⟨_, OwnI.nil _ _, Below.refl _ _, rfl⟩
end Go.Proofs.Ytlcepokenaiggab
