/- Walks: KindLength. -/
import Derived.Test.YtlcepokenaiggaaDoorLn2
import Derived.Lib.AppendIntMem
namespace Go.Proofs.YtlcepokenaiggaaDoor
open Go.RowKit

/-- The table of lengths, which reads so in whatever world is left. -/
def TabL (w : World) : Prop := Lib.TabBelow Tryd.prog w.heap.size w "loop.example/g01161/impl.kindLengths" .i64 tabK
theorem TabL.keep {w w' : World} (h : TabL w) (hb : Below w.heap.size w w') : TabL w' := fun w'' h2 => h w'' (nx hb h2)
theorem TabL.of {w : World} (h : Lib.TabIs Tryd.prog w "loop.example/g01161/impl.kindLengths" .i64 tabK) : TabL w := Lib.tabBelow_of_tabIs h
theorem TabL.cell {w : World} (h : TabL w) (i : Nat) (hi : i < 36) : w.cell? ⟨0, i, none⟩ = some (.int .i64 (tabK.getD i 0)) := Lib.TabIs.cell h.here (by kernel_rfl) i hi
set_option maxRecDepth 100000 in
set_option maxHeartbeats 2000000 in
theorem kindLength_any (a b : ByteArray) (w : World) (hT : TabL w) : Calls Tryd.prog 7 #[.string a, .string b] w (Gives (ansJ (lenO a b)) w) := by
  have hA := fun w => kindPlace_any a w
  have hB := fun w => kindPlace_any b w
  have ra := rowK_range a
  have rb := rowK_range b
  have ea := str_eq a sL0
  have eb := str_eq b sL0
  unfold lenO
  by_cases h0 : a = sL0 ∧ b = sL0
  · rw [if_pos h0]
    obtain ⟨rfl, rfl⟩ := h0
    clear hA hB ra rb ea eb
    unfold sL0
    go_enter Tryd.func7, Tryd.ntmps7
    go_wp2_with fail
    go_ret2
    exact ⟨rfl, Below.refl _ _⟩
  · rw [if_neg h0]
    have e0 : sL0.toList = [76, 48] := by rw [Lib.toList_data]; rfl
    rw [e0] at ea eb
    have hc : (a.toList == [76, 48]) = false ∨ ((a.toList == [76, 48]) = true ∧ (b.toList == [76, 48]) = false) := by
      rw [ea, eb]
      by_cases k : a = sL0
      · exact .inr ⟨by simp [k], by simp; exact fun e => h0 ⟨k, e⟩⟩
      · exact .inl (by simp [k])
    clear ea eb h0 e0
    generalize rowK a = x at *
    generalize rowK b = y at *
    by_cases h1 : x < 0 ∨ y < 0
    · rw [if_pos h1]
      have h1' : x < 0 ∨ (¬ x < 0 ∧ y < 0) := by omega
      clear h1
      rcases hc with hc | ⟨hc, hd⟩ <;> rcases h1' with h1 | ⟨h1, h2⟩
      all_goals
        go_enter Tryd.func7, Tryd.ntmps7
        go_wp2_with fail
        refine (hA _).mono ?_; rintro e w1 ⟨rfl, hb1⟩
        go_wp2_with fail
        refine (hB _).mono ?_; rintro e w2 ⟨rfl, hb2⟩
        go_wp2_with fail
        go_ret2
        exact ⟨rfl, nx hb1 hb2⟩
    · rw [if_neg h1]
      have h2 : 0 ≤ x ∧ x ≤ 5 ∧ 0 ≤ y ∧ y ≤ 5 := by omega
      obtain ⟨x0, x5, y0, y5⟩ := h2
      have hx : ¬ x < 0 := by omega
      have hy : ¬ y < 0 := by omega
      have hx6 : x < 6 := by omega
      have hy6 : y < 6 := by omega
      have hK := fun w (h : TabL w) => h.cell (x.toNat * 6 + y.toNat) (by omega)
      generalize tabK.getD (x.toNat * 6 + y.toNat) 0 = z at *
      clear h1 ra rb
      rcases hc with hc | ⟨hc, hd⟩
      all_goals
        go_enter Tryd.func7, Tryd.ntmps7
        go_wp2_with fail
        refine (hA _).mono ?_; rintro e w1 ⟨rfl, hb1⟩
        go_wp2_with fail
        refine (hB _).mono ?_; rintro e w2 ⟨rfl, hb2⟩
        have hc2 := hK w2 (hT.keep (nx hb1 hb2))
        go_wp2_with fail
        go_ret2
        exact ⟨rfl, nx hb1 hb2⟩
theorem specKindLength_any (a b : ByteArray) (w : World) (_ha : a.size ≤ 9223372036854775806) (_hb : b.size ≤ 9223372036854775806) : Calls Tryd.prog 6 #[.string a, .string b] w (Gives (ansJ (lenO a b)) w) := by
  have hT := fun w => lnTable_any a b w
  unfold ansJ at hT ⊢
  generalize (lenO a b).getD 0 = z at *
  generalize (lenO a b).isSome = q at *
  go_enter Tryd.func6, Tryd.ntmps6
  go_wp2_with fail
  refine (hT _).mono ?_; rintro e w1 ⟨rfl, hb1⟩
  go_wp2_with fail
  go_ret2
  exact ⟨rfl, hb1⟩
theorem implKindLength_any (a b : ByteArray) (w : World) (hT : TabL w) (_ha : a.size ≤ 9223372036854775806) (_hb : b.size ≤ 9223372036854775806) : Calls Tryd.prog 7 #[.string a, .string b] w (Gives (ansJ (lenO a b)) w) := kindLength_any a b w hT
end Go.Proofs.YtlcepokenaiggaaDoor
