/- Walks: spec.lnTable, KindLength. -/
import Derived.Test.YtlcepokenaiggaaDoorLn1
import Derived.Test.YtlcepokenaiggaaDoorIn
namespace Go.Proofs.YtlcepokenaiggaaDoor
open Go.RowKit

def ansJ (o : Option Int) : Value := .tuple #[.int .i64 (o.getD 0), .bool o.isSome]
theorem str_eq (a b : ByteArray) : (a.toList == b.toList) = decide (a = b) := by
  rw [Bool.eq_iff_iff]
  simp only [Lib.toList_data, beq_iff_eq, decide_eq_true_eq]
  exact ⟨fun h => ba_ext h, fun h => by rw [h]⟩
set_option maxRecDepth 100000 in
set_option maxHeartbeats 2000000 in
theorem lnTable_any (a b : ByteArray) (w : World) : Calls Tryd.prog 14 #[.string a, .string b] w (Gives (ansJ (lenO a b)) w) := by
  have hA := fun w => lnRow_any a w
  have hB := fun w => lnRow_any b w
  have ra := rowK_range a
  have rb := rowK_range b
  have ea := str_eq a sL0
  have eb := str_eq b sL0
  unfold lenO
  by_cases h0 : a = sL0 ∧ b = sL0
  · rw [if_pos h0]
    obtain ⟨rfl, rfl⟩ := h0
    clear hA hB ra rb ea eb
    unfold sL0
    go_enter Tryd.func14, Tryd.ntmps14
    go_wp2_with fail
    go_ret2
    exact ⟨rfl, Below.refl _ _⟩
  · rw [if_neg h0]
    have e0 : sL0.toList = [76, 48] := by rw [Lib.toList_data]; rfl
    rw [e0] at ea eb
    have hc : (a.toList == [76, 48]) = false ∨ ((a.toList == [76, 48]) = true ∧ (b.toList == [76, 48]) = false) := by
      rw [ea, eb]
      by_cases k : a = sL0
      · exact .inr ⟨by simp [k], by simp; exact fun e => h0 ⟨k, e⟩⟩
      · exact .inl (by simp [k])
    clear ea eb h0 e0
    generalize rowK a = x at *
    generalize rowK b = y at *
    by_cases h1 : x < 0 ∨ y < 0
    · rw [if_pos h1]
      have h1' : x < 0 ∨ (¬ x < 0 ∧ y < 0) := by omega
      clear h1
      rcases hc with hc | ⟨hc, hd⟩ <;> rcases h1' with h1 | ⟨h1, h2⟩
      all_goals
        go_enter Tryd.func14, Tryd.ntmps14
        go_wp2_with fail
        refine (hA _).mono ?_; rintro e w1 ⟨rfl, hb1⟩
        go_wp2_with fail
        refine (hB _).mono ?_; rintro e w2 ⟨rfl, hb2⟩
        go_wp2_with fail
        go_ret2
        exact ⟨rfl, nx hb1 hb2⟩
    · rw [if_neg h1]
      have h2 : 0 ≤ x ∧ x ≤ 5 ∧ 0 ≤ y ∧ y ≤ 5 := by omega
      obtain ⟨x0, x5, y0, y5⟩ := h2
      have hx : ¬ x < 0 := by omega
      have hy : ¬ y < 0 := by omega
      have hx6 : x < 6 := by omega
      have hy6 : y < 6 := by omega
      clear h1 ra rb
      rcases hc with hc | ⟨hc, hd⟩
      all_goals
        go_enter Tryd.func14, Tryd.ntmps14
        go_wp2_with fail
        refine (hA _).mono ?_; rintro e w1 ⟨rfl, hb1⟩
        go_wp2_with fail
        refine (hB _).mono ?_; rintro e w2 ⟨rfl, hb2⟩
        go_wp2_with fail
        have hbw := nxAlloc (nxAlloc (nxAlloc (nxAlloc (nxAlloc (nxAlloc (nxAlloc (nx hb1 hb2) (.cells #[.int .i64 0, .int .i64 2, .int .i64 2, .int .i64 1, .int .i64 1, .int .i64 3] 3 (0, 0))) (.cells #[.int .i64 2, .int .i64 2, .int .i64 2, .int .i64 1, .int .i64 1, .int .i64 3] 3 (0, 0))) (.cells #[.int .i64 2, .int .i64 2, .int .i64 2, .int .i64 1, .int .i64 3, .int .i64 3] 3 (0, 0))) (.cells #[.int .i64 1, .int .i64 1, .int .i64 1, .int .i64 2, .int .i64 2, .int .i64 2] 3 (0, 0))) (.cells #[.int .i64 1, .int .i64 1, .int .i64 3, .int .i64 2, .int .i64 2, .int .i64 4] 3 (0, 0))) (.cells #[.int .i64 3, .int .i64 3, .int .i64 3, .int .i64 2, .int .i64 4, .int .i64 4] 3 (0, 0))) (.cells #[.slice (some ⟨w2.heap.size, 0, none⟩) 6 6, .slice (some ⟨w2.heap.size + 1, 0, none⟩) 6 6, .slice (some ⟨w2.heap.size + 1 + 1, 0, none⟩) 6 6, .slice (some ⟨w2.heap.size + 1 + 1 + 1, 0, none⟩) 6 6, .slice (some ⟨w2.heap.size + 1 + 1 + 1 + 1, 0, none⟩) 6 6, .slice (some ⟨w2.heap.size + 1 + 1 + 1 + 1 + 1, 0, none⟩) 6 6] 44 (0, 0))
        obtain rfl | rfl | rfl | rfl | rfl | rfl : x = 0 ∨ x = 1 ∨ x = 2 ∨ x = 3 ∨ x = 4 ∨ x = 5 := by omega
        all_goals
          obtain rfl | rfl | rfl | rfl | rfl | rfl : y = 0 ∨ y = 1 ∨ y = 2 ∨ y = 3 ∨ y = 4 ∨ y = 5 := by omega
          all_goals
            simp only [Int.reduceToNat, List.getElem_cons_zero, List.getElem_cons_succ]
            go_simp
            go_wp2_with fail
            go_ret2
            exact ⟨rfl, hbw⟩
end Go.Proofs.YtlcepokenaiggaaDoor
