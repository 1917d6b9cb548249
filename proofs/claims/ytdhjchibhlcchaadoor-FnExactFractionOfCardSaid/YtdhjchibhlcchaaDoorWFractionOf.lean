/- The walk of laws.FnExactFractionOf. -/
import Derived.Test.YtdhjchibhlcchaaDoorFo1
import Derived.Test.YtdhjchibhlcchaaDoorFs2
import Derived.Test.YtdhjchibhlcchaaDoorFr4
import Derived.Test.YtdhjchibhlcchaaDoorRegF
namespace Go.Proofs.YtdhjchibhlcchaaDoor
open Go.RowKit

set_option maxRecDepth 100000 in
set_option maxHeartbeats 2000000 in
theorem specFractionOf_any (a : ByteArray) (w : World) (_ha : a.size ≤ 9223372036854775806) :
    Calls Tryd.prog 6 #[.string a] w (Gives (ansF (fracO a)) w) := by
  unfold fracO
  have hg := fun w => mpBits_any a w
  cases h : isAd a with
  | false =>
    rw [h] at hg
    rw [if_neg (by simp)]
    clear h
    go_enter Tryd.func6, Tryd.ntmps6
    go_wp2_with fail
    have hb0 : Below w.heap.size w (w.alloc (.cells #[.int .i64 0, .int .i64 0] 23 (0, 0))) := nxAlloc (Below.refl _ _) _
    have hx0 := heap_alloc_at w (.cells #[.int .i64 0, .int .i64 0] 23 (0, 0))
    generalize (w.alloc (.cells #[.int .i64 0, .int .i64 0] 23 (0, 0))) = w0 at *
    obtain ⟨hx0a, hx0b, hx0c⟩ := two_facts hx0
    obtain ⟨hx0f, hx0g⟩ := two_frozen hx0
    refine (hg _).mono ?_; rintro e w' ⟨rfl, rfl⟩
    go_wp2_with fail
    obtain ⟨q1, q2⟩ := two_cells (set_two (.int .i64 0) (.int .i64 0) hx0)
    refine bodyPost_ret (v := .tuple #[.agg #[.int .i64 0, .int .i64 0], .bool false]) (by simp [q1, q2, results, Tryd.results6, go_sem]) rfl ⟨rfl, ?_⟩
    exact (hb0.setCell (by show w.heap.size ≤ w.heap.size; omega) _).setCell (by show w.heap.size ≤ w.heap.size; omega) _
  | true =>
    rw [h] at hg
    rw [if_pos rfl]
    obtain ⟨a1, a2⟩ := isAd_iff.1 h
    have hM := fun w => mpOf_any a w a1 a2
    show Calls _ _ _ _ (Gives (.tuple #[.agg #[.int .i64 (frOf (stA a)).1, .int .i64 (frOf (stA a)).2], .bool true]) w)
    clear h a1 a2
    generalize (frOf (stA a)).1 = x1 at *
    generalize (frOf (stA a)).2 = x2 at *
    go_enter Tryd.func6, Tryd.ntmps6
    go_wp2_with fail
    have hb0 : Below w.heap.size w (w.alloc (.cells #[.int .i64 0, .int .i64 0] 23 (0, 0))) := nxAlloc (Below.refl _ _) _
    have hx0 := heap_alloc_at w (.cells #[.int .i64 0, .int .i64 0] 23 (0, 0))
    generalize (w.alloc (.cells #[.int .i64 0, .int .i64 0] 23 (0, 0))) = w0 at *
    obtain ⟨hx0a, hx0b, hx0c⟩ := two_facts hx0
    obtain ⟨hx0f, hx0g⟩ := two_frozen hx0
    refine (hg _).mono ?_; rintro e w' ⟨rfl, rfl⟩
    go_wp2_with fail
    refine (hM _).mono ?_; rintro e w1 ⟨rfl, hb1⟩
    have hbw1 := nx hb0 hb1
    replace hx0 := heap_keep hb1 hx0
    clear hx0a hx0b hx0c hx0f hx0g
    obtain ⟨hx0a, hx0b, hx0c⟩ := two_facts hx0
    obtain ⟨hx0f, hx0g⟩ := two_frozen hx0
    clear hb1 hb0
    go_wp2_with fail
    obtain ⟨q1, q2⟩ := two_cells (set_two (.int .i64 x1) (.int .i64 x2) hx0)
    refine bodyPost_ret (v := .tuple #[.agg #[.int .i64 x1, .int .i64 x2], .bool true]) (by simp [q1, q2, results, Tryd.results6, go_sem]) rfl ⟨rfl, ?_⟩
    exact (hbw1.setCell (by show w.heap.size ≤ w.heap.size; omega) _).setCell (by show w.heap.size ≤ w.heap.size; omega) _

set_option maxRecDepth 100000 in
set_option maxHeartbeats 2000000 in
theorem implFractionOf_any (a : ByteArray) (w : World) (ha : a.size ≤ 9223372036854775806) :
    Calls Tryd.prog 7 #[.string a] w (Gives (ansF (fracO a)) w) := by
  unfold fracO
  have hg := fun w => isAddress_any a w ha
  cases h : isAd a with
  | false =>
    rw [h] at hg
    rw [if_neg (by simp)]
    clear h
    go_enter Tryd.func7, Tryd.ntmps7
    go_wp2_with fail
    have hb0 : Below w.heap.size w (w.alloc (.cells #[.int .i64 0, .int .i64 0] 23 (0, 0))) := nxAlloc (Below.refl _ _) _
    have hx0 := heap_alloc_at w (.cells #[.int .i64 0, .int .i64 0] 23 (0, 0))
    generalize (w.alloc (.cells #[.int .i64 0, .int .i64 0] 23 (0, 0))) = w0 at *
    obtain ⟨hx0a, hx0b, hx0c⟩ := two_facts hx0
    obtain ⟨hx0f, hx0g⟩ := two_frozen hx0
    refine (hg _).mono ?_; rintro e w1 ⟨rfl, hb1⟩
    have hbw1 := nx hb0 hb1
    replace hx0 := heap_keep hb1 hx0
    clear hx0a hx0b hx0c hx0f hx0g
    obtain ⟨hx0a, hx0b, hx0c⟩ := two_facts hx0
    obtain ⟨hx0f, hx0g⟩ := two_frozen hx0
    clear hb1 hb0
    go_wp2_with fail
    obtain ⟨q1, q2⟩ := two_cells (set_two (.int .i64 0) (.int .i64 0) hx0)
    refine bodyPost_ret (v := .tuple #[.agg #[.int .i64 0, .int .i64 0], .bool false]) (by simp [q1, q2, results, Tryd.results7, go_sem]) rfl ⟨rfl, ?_⟩
    exact (hbw1.setCell (by show w.heap.size ≤ w.heap.size; omega) _).setCell (by show w.heap.size ≤ w.heap.size; omega) _
  | true =>
    rw [h] at hg
    rw [if_pos rfl]
    obtain ⟨a1, a2⟩ := isAd_iff.1 h
    have hS := fun w => startOf_any a w a1 a2
    have hlts := stA_lt (a := a) (by omega) a2
    have hFA := fun w => fractionAt_any (stA a) w (by omega)
    rw [frA_thousand (by omega) (stA_thousand a1)] at hFA
    have hF : ∀ w, Calls Tryd.prog 18 #[.int .i64 (stA a)] w (Gives (.tuple #[.agg #[.int .i64 (frOf (stA a)).1, .int .i64 (frOf (stA a)).2], .bool true]) w) := hFA
    show Calls _ _ _ _ (Gives (.tuple #[.agg #[.int .i64 (frOf (stA a)).1, .int .i64 (frOf (stA a)).2], .bool true]) w)
    clear hFA hlts
    clear h a1 a2
    generalize (frOf (stA a)).1 = x1 at *
    generalize (frOf (stA a)).2 = x2 at *
    go_enter Tryd.func7, Tryd.ntmps7
    go_wp2_with fail
    have hb0 : Below w.heap.size w (w.alloc (.cells #[.int .i64 0, .int .i64 0] 23 (0, 0))) := nxAlloc (Below.refl _ _) _
    have hx0 := heap_alloc_at w (.cells #[.int .i64 0, .int .i64 0] 23 (0, 0))
    generalize (w.alloc (.cells #[.int .i64 0, .int .i64 0] 23 (0, 0))) = w0 at *
    obtain ⟨hx0a, hx0b, hx0c⟩ := two_facts hx0
    obtain ⟨hx0f, hx0g⟩ := two_frozen hx0
    refine (hg _).mono ?_; rintro e w1 ⟨rfl, hb1⟩
    have hbw1 := nx hb0 hb1
    replace hx0 := heap_keep hb1 hx0
    clear hx0a hx0b hx0c hx0f hx0g
    obtain ⟨hx0a, hx0b, hx0c⟩ := two_facts hx0
    obtain ⟨hx0f, hx0g⟩ := two_frozen hx0
    clear hb1 hb0
    go_wp2_with fail
    refine (hS _).mono ?_; rintro e w2 ⟨rfl, hb2⟩
    have hbw2 := nx hbw1 hb2
    replace hx0 := heap_keep hb2 hx0
    clear hx0a hx0b hx0c hx0f hx0g
    obtain ⟨hx0a, hx0b, hx0c⟩ := two_facts hx0
    obtain ⟨hx0f, hx0g⟩ := two_frozen hx0
    clear hb2 hbw1
    go_wp2_with fail
    refine (hF _).mono ?_; rintro e w3 ⟨rfl, hb3⟩
    have hbw3 := nx hbw2 hb3
    replace hx0 := heap_keep hb3 hx0
    clear hx0a hx0b hx0c hx0f hx0g
    obtain ⟨hx0a, hx0b, hx0c⟩ := two_facts hx0
    obtain ⟨hx0f, hx0g⟩ := two_frozen hx0
    clear hb3 hbw2
    go_wp2_with fail
    obtain ⟨q1, q2⟩ := two_cells (set_two (.int .i64 x1) (.int .i64 x2) hx0)
    refine bodyPost_ret (v := .tuple #[.agg #[.int .i64 x1, .int .i64 x2], .bool true]) (by simp [q1, q2, results, Tryd.results7, go_sem]) rfl ⟨rfl, ?_⟩
    exact (hbw3.setCell (by show w.heap.size ≤ w.heap.size; omega) _).setCell (by show w.heap.size ≤ w.heap.size; omega) _

set_option maxRecDepth 100000 in
set_option maxHeartbeats 1000000 in
theorem fnExactFractionOf_walk (s0 : ByteArray) (hs0 : s0.size ≤ maxLen) (w : World) :
    Calls Tryd.prog 3 #[.string s0] w fun e w' => e = .returned (.bool true) ∧ Below w.heap.size w w' := by
  unfold maxLen at hs0
  by_cases hbigs0 : (1048576 : Int) < s0.size
  · go_enter Tryd.func3, Tryd.ntmps3
    go_wp2_with fail
    go_ret
    exact ⟨rfl, Below.refl _ _⟩
  have hS := fun w => specFractionOf_any s0 w (by omega)
  have hI := fun w => implFractionOf_any s0 w (by omega)
  have hS' : ∀ w, Calls Tryd.prog 6 #[.string s0] w (Gives (ansF (fracO s0)) w) := hS
  have hI' : ∀ w, Calls Tryd.prog 7 #[.string s0] w (Gives (ansF (fracO s0)) w) := hI
  clear hS hI
  generalize (fracO s0) = o at hS' hI'
  unfold ansF at hS' hI'
  generalize fS1 o = A at hS' hI'
  generalize fS2 o = B at hS' hI'
  generalize o.isSome = ok at hS' hI'
  clear o
  go_enter Tryd.func3, Tryd.ntmps3
  go_wp2_with fail
  refine (hS' _).mono ?_; rintro e w1 ⟨rfl, hb1⟩
  have hbw1 := nx (Below.refl _ _) hb1
  clear hb1
  go_wp2_with fail
  have hbw2 := nxAlloc hbw1 (.cells #[.int .i64 A, .int .i64 B] 23 (0, 0))
  have hy0 := heap_alloc_at w1 (.cells #[.int .i64 A, .int .i64 B] 23 (0, 0))
  generalize w1.alloc (.cells #[.int .i64 A, .int .i64 B] 23 (0, 0)) = w2 at *
  obtain ⟨ya, yb, yc⟩ := two_facts hy0
  go_wp2_with fail
  refine (hI' _).mono ?_; rintro e w3 ⟨rfl, hb3⟩
  have hbw3 := nx hbw2 hb3
  replace hy0 := heap_keep hb3 hy0
  clear ya yb yc
  obtain ⟨ya, yb, yc⟩ := two_facts hy0
  clear hb3 hbw2
  go_wp2_with fail
  have hbw4 := nxAlloc hbw3 (.cells #[.int .i64 A, .int .i64 B] 23 (0, 0))
  replace hy0 := heap_keep (nxAlloc (Below.refl _ _) (.cells #[.int .i64 A, .int .i64 B] 23 (0, 0))) hy0
  have hy1 := heap_alloc_at w3 (.cells #[.int .i64 A, .int .i64 B] 23 (0, 0))
  generalize w3.alloc (.cells #[.int .i64 A, .int .i64 B] 23 (0, 0)) = w4 at *
  clear ya yb yc
  obtain ⟨ya, yb, yc⟩ := two_facts hy0
  obtain ⟨za, zb, zc⟩ := two_facts hy1
  go_wp2_with fail
  refine (eqFraction_same A B _).mono ?_; rintro e wz ⟨rfl, hbz⟩
  go_wp2_with fail
  go_ret
  exact ⟨rfl, nx hbw4 hbz⟩
end Go.Proofs.YtdhjchibhlcchaaDoor
