/- Walks: rules behind an interface. -/
import Derived.Test.YtlcepokenaiggabWdQ
import Derived.Test.YtlcepokenaiggabBase
import Derived.Test.YtlcepokenaiggabRow
import Derived.Test.YtlcepokenaiggabWd3
import Derived.Laws.OwnMore
namespace Go.Proofs.Ytlcepokenaiggab
open Go.RowKit

/-- Whether a rule of the program's list changes two letters. -/
def chI : Nat → Int → Int → Bool
  | 0, x, y => x == -y
  | 1, x, y => decide (0 < y) && decide (y < x)
  | 2, x, y => decide (x < 0) && decide (y < x)
  | 3, x, y => decide (x < 0) && decide (-x < y)
  | _, x, y => decide (0 < y) && decide (y < -x)
def rais (x : Int) : Int := if x < 0 then x - 1 else x + 1
def behI : Nat → Int → Int → List Int
  | 0, _, _ => []
  | 1, x, y => [y, rais x]
  | 2, x, y => [rais y, x]
  | 3, x, y => [rais y, x]
  | _, x, y => [y, rais x]
theorem rule_none {x y : Int} (h : ∀ j, j < 5 → chI j x y = false) : ruleO x y = none := by
  have h0 := h 0 (by omega)
  have h1 := h 1 (by omega)
  have h2 := h 2 (by omega)
  have h3 := h 3 (by omega)
  have h4 := h 4 (by omega)
  simp only [chI, beq_eq_false_iff_ne, Bool.and_eq_false_iff, decide_eq_false_iff_not] at h0 h1 h2 h3 h4
  unfold ruleO
  rw [if_neg h0, if_neg (by omega), if_neg (by omega), if_neg (by omega), if_neg (by omega)]
theorem rule_some {x y : Int} {j : Nat} (hj : j < 5) (h : ∀ i, i < j → chI i x y = false) (hc : chI j x y = true) : ruleO x y = some (behI j x y) := by
  match j, hj with
  | 0, _ =>
    simp only [chI, beq_iff_eq] at hc
    unfold ruleO
    rw [if_pos hc]
    rfl
  | 1, _ =>
    have h0 := h 0 (by omega)
    simp only [chI, beq_eq_false_iff_ne, Bool.and_eq_true, decide_eq_true_eq] at h0 hc
    show ruleO x y = some [y, rais x]
    unfold ruleO rais
    rw [if_neg h0, if_pos (by omega), if_neg (by omega)]
  | 2, _ =>
    have h0 := h 0 (by omega)
    simp only [chI, beq_eq_false_iff_ne, Bool.and_eq_true, decide_eq_true_eq] at h0 hc
    show ruleO x y = some [rais y, x]
    unfold ruleO rais
    rw [if_neg h0, if_neg (by omega), if_pos (by omega), if_pos (by omega)]
  | 3, _ =>
    have h0 := h 0 (by omega)
    simp only [chI, beq_eq_false_iff_ne, Bool.and_eq_true, decide_eq_true_eq] at h0 hc
    show ruleO x y = some [rais y, x]
    unfold ruleO rais
    rw [if_neg h0, if_neg (by omega), if_neg (by omega), if_pos (by omega), if_neg (by omega)]
  | 4, _ =>
    have h0 := h 0 (by omega)
    have h1 := h 1 (by omega)
    simp only [chI, beq_eq_false_iff_ne, Bool.and_eq_true, Bool.and_eq_false_iff, decide_eq_true_eq, decide_eq_false_iff_not] at h0 h1 hc
    show ruleO x y = some [y, rais x]
    unfold ruleO rais
    rw [if_neg h0, if_neg (by omega), if_neg (by omega), if_neg (by omega), if_pos (by omega), if_pos (by omega)]

theorem changes0_any (x y : Int) (w : World) (_h1 : -1000 ≤ x) (_h2 : x ≤ 1000) (_h3 : -1000 ≤ y) (_h4 : y ≤ 1000) : Calls Try.prog 55 #[.agg #[], .int .i64 x, .int .i64 y] w (Gives (.bool (chI 0 x y)) w) := by
  have hb := nxAlloc (Below.refl w.heap.size w) (.cells #[] 44 (0, 0))
  show Calls _ _ _ _ (Gives (.bool (x == -y)) w)
  go_enter Try.func55, Try.ntmps55
  go_wp2_with fail
  go_ret
  exact ⟨rfl, hb⟩

theorem changes1_any (x y : Int) (w : World) (_h1 : -1000 ≤ x) (_h2 : x ≤ 1000) (_h3 : -1000 ≤ y) (_h4 : y ≤ 1000) : Calls Try.prog 56 #[.agg #[], .int .i64 x, .int .i64 y] w (Gives (.bool (chI 1 x y)) w) := by
  have hb := nxAlloc (Below.refl w.heap.size w) (.cells #[] 45 (0, 0))
  show Calls _ _ _ _ (Gives (.bool (decide (0 < y) && decide (y < x))) w)
  by_cases h : 0 < y
  · rw [decide_eq_true h, Bool.true_and]
    go_enter Try.func56, Try.ntmps56
    go_wp2_with fail
    go_ret
    exact ⟨rfl, hb⟩
  · rw [decide_eq_false h, Bool.false_and]
    go_enter Try.func56, Try.ntmps56
    go_wp2_with fail
    go_ret
    exact ⟨rfl, hb⟩

theorem changes2_any (x y : Int) (w : World) (_h1 : -1000 ≤ x) (_h2 : x ≤ 1000) (_h3 : -1000 ≤ y) (_h4 : y ≤ 1000) : Calls Try.prog 57 #[.agg #[], .int .i64 x, .int .i64 y] w (Gives (.bool (chI 2 x y)) w) := by
  have hb := nxAlloc (Below.refl w.heap.size w) (.cells #[] 46 (0, 0))
  show Calls _ _ _ _ (Gives (.bool (decide (x < 0) && decide (y < x))) w)
  by_cases h : x < 0
  · rw [decide_eq_true h, Bool.true_and]
    go_enter Try.func57, Try.ntmps57
    go_wp2_with fail
    go_ret
    exact ⟨rfl, hb⟩
  · rw [decide_eq_false h, Bool.false_and]
    go_enter Try.func57, Try.ntmps57
    go_wp2_with fail
    go_ret
    exact ⟨rfl, hb⟩

theorem changes3_any (x y : Int) (w : World) (_h1 : -1000 ≤ x) (_h2 : x ≤ 1000) (_h3 : -1000 ≤ y) (_h4 : y ≤ 1000) : Calls Try.prog 58 #[.agg #[], .int .i64 x, .int .i64 y] w (Gives (.bool (chI 3 x y)) w) := by
  have hb := nxAlloc (Below.refl w.heap.size w) (.cells #[] 47 (0, 0))
  show Calls _ _ _ _ (Gives (.bool (decide (x < 0) && decide (-x < y))) w)
  by_cases h : x < 0
  · rw [decide_eq_true h, Bool.true_and]
    go_enter Try.func58, Try.ntmps58
    go_wp2_with fail
    go_ret
    exact ⟨rfl, hb⟩
  · rw [decide_eq_false h, Bool.false_and]
    go_enter Try.func58, Try.ntmps58
    go_wp2_with fail
    go_ret
    exact ⟨rfl, hb⟩

theorem changes4_any (x y : Int) (w : World) (_h1 : -1000 ≤ x) (_h2 : x ≤ 1000) (_h3 : -1000 ≤ y) (_h4 : y ≤ 1000) : Calls Try.prog 59 #[.agg #[], .int .i64 x, .int .i64 y] w (Gives (.bool (chI 4 x y)) w) := by
  have hb := nxAlloc (Below.refl w.heap.size w) (.cells #[] 48 (0, 0))
  show Calls _ _ _ _ (Gives (.bool (decide (0 < y) && decide (y < -x))) w)
  by_cases h : 0 < y
  · rw [decide_eq_true h, Bool.true_and]
    go_enter Try.func59, Try.ntmps59
    go_wp2_with fail
    go_ret
    exact ⟨rfl, hb⟩
  · rw [decide_eq_false h, Bool.false_and]
    go_enter Try.func59, Try.ntmps59
    go_wp2_with fail
    go_ret
    exact ⟨rfl, hb⟩

theorem raised1_any (x : Int) (w : World) (h1 : -1000 ≤ x) (h2 : x ≤ 1000) : Calls Try.prog 39 #[.int .i64 x, .int .i64 1] w fun e w' => e = .returned (.int .i64 (rais x)) ∧ w = w' := by
  have h := raised_any x 1 w h1 h2 (by omega) (by omega)
  exact h
/-- The rules as values. -/
def ruleV : Nat → Value
  | 0 => .iface 44 (.agg #[])
  | 1 => .iface 45 (.agg #[])
  | 2 => .iface 46 (.agg #[])
  | 3 => .iface 47 (.agg #[])
  | _ => .iface 48 (.agg #[])
theorem rule_cells (w : World) (t : TypeId) (j : Nat) (h : j < 5) : (w.alloc (.cells #[ruleV 0, ruleV 1, ruleV 2, ruleV 3, ruleV 4] t (0, 0))).cell? ⟨w.heap.size, j, none⟩ = some (ruleV j) := by
  have hb : (w.alloc (.cells #[ruleV 0, ruleV 1, ruleV 2, ruleV 3, ruleV 4] t (0, 0))).heap[w.heap.size]? = some (.cells #[ruleV 0, ruleV 1, ruleV 2, ruleV 3, ruleV 4] t (0, 0)) := by show (w.heap.push _)[w.heap.size]? = _; simp
  show ((match (w.alloc (.cells #[ruleV 0, ruleV 1, ruleV 2, ruleV 3, ruleV 4] t (0, 0))).heap[w.heap.size]? with
    | some (.cells c _ _) => c[j]?
    | _ => none) : Option Value) = _
  rw [hb]
  match j, h with
  | 0, _ => rfl
  | 1, _ => rfl
  | 2, _ => rfl
  | 3, _ => rfl
  | 4, _ => rfl
theorem allRules_any (w : World) : Calls Try.prog 32 #[] w fun e w' => e = .returned (.slice (some ⟨w.heap.size, 0, none⟩) 5 5) ∧ (∀ j, j < 5 → w'.cell? ⟨w.heap.size, j, none⟩ = some (ruleV j)) ∧ w.heap.size < w'.heap.size ∧ Below w.heap.size w w' := by
  have hc := rule_cells w 37
  have hb := nxAlloc (Below.refl w.heap.size w) (.cells #[ruleV 0, ruleV 1, ruleV 2, ruleV 3, ruleV 4] 37 (0, 0))
  unfold ruleV at hb
  go_enter Try.func32, Try.ntmps32
  go_wp2_with fail
  go_ret
  exact ⟨rfl, hc, by simp, hb⟩

theorem behindRule0_any (x y : Int) (w : World) (_h1 : -1000 ≤ x) (_h2 : x ≤ 1000) (_h3 : -1000 ≤ y) (_h4 : y ≤ 1000) : Calls Try.prog 34 #[.iface 44 (.agg #[]), .int .i64 x, .int .i64 y] w (GivesInts (behI 0 x y) w) := by
  have ta1 : ∀ w : World, (Instr.typeAssert (.iface 44 (.agg #[])) 37 45 true).run Try.prog w = .ok (.tuple #[.agg #[], .bool false]) w := fun w => by kernel_rfl
  have ta4 : ∀ w : World, (Instr.typeAssert (.iface 44 (.agg #[])) 37 48 true).run Try.prog w = .ok (.tuple #[.agg #[], .bool false]) w := fun w => by kernel_rfl
  have ta2 : ∀ w : World, (Instr.typeAssert (.iface 44 (.agg #[])) 37 46 true).run Try.prog w = .ok (.tuple #[.agg #[], .bool false]) w := fun w => by kernel_rfl
  have ta3 : ∀ w : World, (Instr.typeAssert (.iface 44 (.agg #[])) 37 47 true).run Try.prog w = .ok (.tuple #[.agg #[], .bool false]) w := fun w => by kernel_rfl
  go_enter Try.func34, Try.ntmps34
  go_wp2_with fail
  go_ret
  exact ⟨_, OwnI.nil _ _, Below.refl _ _, rfl⟩

theorem behindRule1_any (x y : Int) (w : World) (_h1 : -1000 ≤ x) (_h2 : x ≤ 1000) (_h3 : -1000 ≤ y) (_h4 : y ≤ 1000) : Calls Try.prog 34 #[.iface 45 (.agg #[]), .int .i64 x, .int .i64 y] w (GivesInts (behI 1 x y) w) := by
  have hR := fun w => raised1_any x w (by omega) (by omega)
  have hl := fun w : World => World.ownsRow_lit (base := w.heap.size) (e := 3) (size := 1) w #[.int .i64 y, .int .i64 (rais x)] 2 (Nat.le_refl _) (by unfold maxLen; omega) rfl
  have hb := fun w : World => nxAlloc (Below.refl w.heap.size w) (.cells #[.int .i64 y, .int .i64 (rais x)] 3 (0, 0))
  show Calls _ _ _ _ (GivesInts [y, rais x] w)
  generalize rais x = r at *
  have ta1 : ∀ w : World, (Instr.typeAssert (.iface 45 (.agg #[])) 37 45 true).run Try.prog w = .ok (.tuple #[.agg #[], .bool true]) w := fun w => by kernel_rfl
  have ta4 : ∀ w : World, (Instr.typeAssert (.iface 45 (.agg #[])) 37 48 true).run Try.prog w = .ok (.tuple #[.agg #[], .bool false]) w := fun w => by kernel_rfl
  go_enter Try.func34, Try.ntmps34
  go_wp2_with fail
  refine (hR _).mono ?_; rintro e w1 ⟨rfl, rfl⟩
  go_wp2_with fail
  go_ret
  exact ⟨_, hl _, hb _, rfl⟩

theorem behindRule2_any (x y : Int) (w : World) (_h1 : -1000 ≤ x) (_h2 : x ≤ 1000) (_h3 : -1000 ≤ y) (_h4 : y ≤ 1000) : Calls Try.prog 34 #[.iface 46 (.agg #[]), .int .i64 x, .int .i64 y] w (GivesInts (behI 2 x y) w) := by
  have hR := fun w => raised1_any y w (by omega) (by omega)
  have hl := fun w : World => World.ownsRow_lit (base := w.heap.size) (e := 3) (size := 1) w #[.int .i64 (rais y), .int .i64 x] 2 (Nat.le_refl _) (by unfold maxLen; omega) rfl
  have hb := fun w : World => nxAlloc (Below.refl w.heap.size w) (.cells #[.int .i64 (rais y), .int .i64 x] 3 (0, 0))
  show Calls _ _ _ _ (GivesInts [rais y, x] w)
  generalize rais y = r at *
  have ta1 : ∀ w : World, (Instr.typeAssert (.iface 46 (.agg #[])) 37 45 true).run Try.prog w = .ok (.tuple #[.agg #[], .bool false]) w := fun w => by kernel_rfl
  have ta4 : ∀ w : World, (Instr.typeAssert (.iface 46 (.agg #[])) 37 48 true).run Try.prog w = .ok (.tuple #[.agg #[], .bool false]) w := fun w => by kernel_rfl
  have ta2 : ∀ w : World, (Instr.typeAssert (.iface 46 (.agg #[])) 37 46 true).run Try.prog w = .ok (.tuple #[.agg #[], .bool true]) w := fun w => by kernel_rfl
  have ta3 : ∀ w : World, (Instr.typeAssert (.iface 46 (.agg #[])) 37 47 true).run Try.prog w = .ok (.tuple #[.agg #[], .bool false]) w := fun w => by kernel_rfl
  go_enter Try.func34, Try.ntmps34
  go_wp2_with fail
  refine (hR _).mono ?_; rintro e w1 ⟨rfl, rfl⟩
  go_wp2_with fail
  go_ret
  exact ⟨_, hl _, hb _, rfl⟩

theorem behindRule3_any (x y : Int) (w : World) (_h1 : -1000 ≤ x) (_h2 : x ≤ 1000) (_h3 : -1000 ≤ y) (_h4 : y ≤ 1000) : Calls Try.prog 34 #[.iface 47 (.agg #[]), .int .i64 x, .int .i64 y] w (GivesInts (behI 3 x y) w) := by
  have hR := fun w => raised1_any y w (by omega) (by omega)
  have hl := fun w : World => World.ownsRow_lit (base := w.heap.size) (e := 3) (size := 1) w #[.int .i64 (rais y), .int .i64 x] 2 (Nat.le_refl _) (by unfold maxLen; omega) rfl
  have hb := fun w : World => nxAlloc (Below.refl w.heap.size w) (.cells #[.int .i64 (rais y), .int .i64 x] 3 (0, 0))
  show Calls _ _ _ _ (GivesInts [rais y, x] w)
  generalize rais y = r at *
  have ta1 : ∀ w : World, (Instr.typeAssert (.iface 47 (.agg #[])) 37 45 true).run Try.prog w = .ok (.tuple #[.agg #[], .bool false]) w := fun w => by kernel_rfl
  have ta4 : ∀ w : World, (Instr.typeAssert (.iface 47 (.agg #[])) 37 48 true).run Try.prog w = .ok (.tuple #[.agg #[], .bool false]) w := fun w => by kernel_rfl
  have ta2 : ∀ w : World, (Instr.typeAssert (.iface 47 (.agg #[])) 37 46 true).run Try.prog w = .ok (.tuple #[.agg #[], .bool false]) w := fun w => by kernel_rfl
  have ta3 : ∀ w : World, (Instr.typeAssert (.iface 47 (.agg #[])) 37 47 true).run Try.prog w = .ok (.tuple #[.agg #[], .bool true]) w := fun w => by kernel_rfl
  go_enter Try.func34, Try.ntmps34
  go_wp2_with fail
  refine (hR _).mono ?_; rintro e w1 ⟨rfl, rfl⟩
  go_wp2_with fail
  go_ret
  exact ⟨_, hl _, hb _, rfl⟩

theorem behindRule4_any (x y : Int) (w : World) (_h1 : -1000 ≤ x) (_h2 : x ≤ 1000) (_h3 : -1000 ≤ y) (_h4 : y ≤ 1000) : Calls Try.prog 34 #[.iface 48 (.agg #[]), .int .i64 x, .int .i64 y] w (GivesInts (behI 4 x y) w) := by
  have hR := fun w => raised1_any x w (by omega) (by omega)
  have hl := fun w : World => World.ownsRow_lit (base := w.heap.size) (e := 3) (size := 1) w #[.int .i64 y, .int .i64 (rais x)] 2 (Nat.le_refl _) (by unfold maxLen; omega) rfl
  have hb := fun w : World => nxAlloc (Below.refl w.heap.size w) (.cells #[.int .i64 y, .int .i64 (rais x)] 3 (0, 0))
  show Calls _ _ _ _ (GivesInts [y, rais x] w)
  generalize rais x = r at *
  have ta1 : ∀ w : World, (Instr.typeAssert (.iface 48 (.agg #[])) 37 45 true).run Try.prog w = .ok (.tuple #[.agg #[], .bool false]) w := fun w => by kernel_rfl
  have ta4 : ∀ w : World, (Instr.typeAssert (.iface 48 (.agg #[])) 37 48 true).run Try.prog w = .ok (.tuple #[.agg #[], .bool true]) w := fun w => by kernel_rfl
  go_enter Try.func34, Try.ntmps34
  go_wp2_with fail
  refine (hR _).mono ?_; rintro e w1 ⟨rfl, rfl⟩
  go_wp2_with fail
  go_ret
  exact ⟨_, hl _, hb _, rfl⟩
end Go.Proofs.Ytlcepokenaiggab
