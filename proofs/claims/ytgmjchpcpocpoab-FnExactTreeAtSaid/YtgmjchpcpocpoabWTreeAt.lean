/- The walk of laws.FnExactTreeAt. -/
import Derived.Test.YtgmjchpcpocpoabTrList
import Derived.Test.YtgmjchpcpocpoabNext1
namespace Go.Proofs.Ytgmjchpcpocpoab
open Go.RowKit

def TreeAt_o (n r : Int) : Option Tr := if 0 ≤ n ∧ n ≤ 8 then if 0 ≤ r ∧ r < (catN n.toNat : Nat) then some (treeAt n.toNat r.toNat) else none else none
theorem treeAt_carets {n r : Nat} (hn : n ≤ 8) (hr : r < listsN 1 n) : (treeAt n r).carets = n := (mem_treesN n _).1 (List.mem_of_getElem? (treesN_get n r hn hr))
set_option maxHeartbeats 1000000 in
theorem specTreeAt_any (n r : Int) (w : World) (lo0 : -9223372036854775808 ≤ n) (hi0 : n ≤ 9223372036854775807) (lo1 : -9223372036854775808 ≤ r) (hi1 : r ≤ 9223372036854775807) :
    Calls Try.prog 28 #[.int .i64 n, .int .i64 r] w (Gives (ansV (TreeAt_o n r)) w) := by
  unfold TreeAt_o
  by_cases h : 0 ≤ n ∧ n ≤ 8
  · rw [if_pos h]
    obtain ⟨k, rfl⟩ : ∃ k : Nat, n = k := ⟨n.toNat, by omega⟩
    have h8 : k ≤ 8 := by omega
    rw [Int.toNat_natCast]
    have hcb := catN_bd k h8
    have hcp : 0 < catN k := by
      have : ∀ k, k ≤ 8 → 0 < catN k := by decide
      exact this k h8
    have hC := fun w => trCount_any k w h8
    clear h
    by_cases hr : 0 ≤ r ∧ r < (catN k : Nat)
    · rw [if_pos hr]
      obtain ⟨q, rfl⟩ : ∃ q : Nat, r = q := ⟨r.toNat, by omega⟩
      rw [Int.toNat_natCast]
      have hq : q < listsN 1 k := by rw [lists_cat k h8]; omega
      have hget := treesN_get k q h8 hq
      have hT := fun w => trList_any k h8 w
      have hq2 : (trTexts k)[q]? = some (treeAt k q).str := by unfold trTexts; rw [List.getElem?_map, hget]; rfl
      have HQ := Lib.hid hq2
      have hr1 : (q : Int) ≤ (catN k : Int) - 1 := by omega
      generalize catN k = Cn at *
      clear hr hq hget hq2 hcp
      go_enter Try.func28, Try.ntmps28
      go_wp2_with fail
      refine (trSize_yes k _ (by omega) (by omega)).mono ?_; rintro e w1 ⟨rfl, rfl⟩
      go_wp2_with fail
      refine (hC _).mono ?_; rintro e w1 ⟨rfl, rfl⟩
      go_wp2_with fail
      refine (l1In_yes q 0 ((Cn : Int) - 1) _ (by omega) hr1).mono ?_; rintro e w1 ⟨rfl, rfl⟩
      go_wp2_with fail
      refine (hT _).mono ?_; rintro e w1 ⟨g, cap, own, hb1, rfl⟩
      have hcell := CellsS.at own.cells HQ.out
      have hlen : q < (trTexts k).length := (List.getElem?_eq_some_iff.1 HQ.out).1
      have hlen' : (q : Int) < ((trTexts k).length : Int) := by omega
      generalize (trTexts k).length = M at *
      clear own
      go_wp2_with fail
      go_ret2
      exact ⟨rfl, hb1⟩
    · rw [if_neg hr]
      have HN : Hid (r < 0 ∨ (catN k : Int) - 1 < r) := show _ ∨ _ by omega
      generalize catN k = Cn at *
      clear hr
      go_enter Try.func28, Try.ntmps28
      go_wp2_with fail
      refine (trSize_yes k _ (by omega) (by omega)).mono ?_; rintro e w1 ⟨rfl, rfl⟩
      go_wp2_with fail
      refine (hC _).mono ?_; rintro e w1 ⟨rfl, rfl⟩
      go_wp2_with fail
      refine (l1In_no r 0 ((Cn : Int) - 1) _ HN.out).mono ?_; rintro e w1 ⟨rfl, rfl⟩
      go_wp2_with fail
      go_ret2
      exact ⟨rfl, Below.refl _ _⟩
  · rw [if_neg h]
    have HN : Hid (n < 0 ∨ 8 < n) := show _ ∨ _ by omega
    clear h
    go_enter Try.func28, Try.ntmps28
    go_wp2_with fail
    refine (trSize_no n _ HN.out).mono ?_; rintro e w1 ⟨rfl, rfl⟩
    go_wp2_with fail
    go_ret2
    exact ⟨rfl, Below.refl _ _⟩

set_option maxRecDepth 100000 in
set_option maxHeartbeats 1000000 in
theorem implTreeAt_any (n r : Int) (w : World) (lo0 : -9223372036854775808 ≤ n) (hi0 : n ≤ 9223372036854775807) (lo1 : -9223372036854775808 ≤ r) (hi1 : r ≤ 9223372036854775807) :
    Calls Try.prog 29 #[.int .i64 n, .int .i64 r] w (Gives (ansV (TreeAt_o n r)) w) := by
  have hC := fun w => implCountTrees_any n w lo0 hi0
  unfold TreeAt_o
  by_cases h : 0 ≤ n ∧ n ≤ 8
  · rw [if_pos h]
    have hco : countO n = some (catN n.toNat) := by unfold countO; rw [if_pos h]
    rw [hco] at hC
    obtain ⟨k, rfl⟩ : ∃ k : Nat, n = k := ⟨n.toNat, by omega⟩
    have h8 : k ≤ 8 := by omega
    rw [Int.toNat_natCast] at hC ⊢
    have hcb := catN_bd k h8
    unfold ansN at hC
    simp only [Option.getD_some, Option.isSome_some] at hC
    clear h hco
    by_cases hr : 0 ≤ r ∧ r < (catN k : Nat)
    · rw [if_pos hr]
      obtain ⟨q, rfl⟩ : ∃ q : Nat, r = q := ⟨r.toNat, by omega⟩
      rw [Int.toNat_natCast]
      have hq : q < listsN 1 k := by rw [lists_cat k h8]; omega
      obtain ⟨us, hget⟩ : ∃ us, (enum 1 k)[q]? = some us := ⟨_, List.getElem?_eq_getElem (by rw [enum_length h8 (by omega) (by omega)]; exact hq)⟩
      have hN := fun b w h => next_any (2 * k + 1) b 1 k q us w h (Nat.le_refl _) (Nat.le_refl _) h8 (by omega) (by have := catN_bd k h8; omega) hget
      have hcar := treeAt_carets h8 hq
      have ht : (nextF (2 * k + 1) 1 k q).1 = treeAt k q := rfl
      rw [ht] at hN
      have hd1 : decide ((q : Int) < 0) = false := by simp
      have hd2 : (q : Int) < (catN k : Int) := by omega
      have HN := Lib.hid hN
      have HC := Lib.hid hcar
      generalize treeAt k q = T at *
      generalize catN k = Cn at *
      clear hr hq hget hN hcar ht
      go_enter Try.func29, Try.ntmps29
      go_wp2_with fail
      refine (hC _).mono ?_; rintro e w1 ⟨rfl, hb1⟩
      go_wp2_with fail
      have hk : WkAt (w1.alloc (.cells #[.int .i64 1, .int .i64 k, .int .i64 q] 67 (0, 0))) w1.heap.size 1 k q := heap_alloc_at _ _
      have hb2 := nxAlloc hb1 (.cells #[.int .i64 1, .int .i64 k, .int .i64 q] 67 (0, 0))
      have hs1 := hb1.size
      refine (HN.out _ _ hk).mono ?_; rintro e w2 ⟨g, rfl, hu, _, hg⟩
      have hb3 : Below w.heap.size w w2 := Below.grown hb2 hg hb2.size (fun j hj => by injection hj with hj; omega)
      have hT := fun w h => text_any T g w h (by rw [HC.out]; omega)
      have HU := Lib.hid hu.at
      clear hk hb2 hg hu hC
      go_wp2_with fail
      refine (hT _ HU.out).mono ?_; rintro e w3 ⟨rfl, d3, rfl⟩
      go_wp2_with fail
      go_ret2
      exact ⟨rfl, drewB hb3 _⟩
    · rw [if_neg hr]
      generalize catN k = Cn at *
      by_cases h0 : r < 0
      · have hd1 : decide (r < 0) = true := by simpa using h0
        clear hr h0
        go_enter Try.func29, Try.ntmps29
        go_wp2_with fail
        refine (hC _).mono ?_; rintro e w1 ⟨rfl, hb1⟩
        go_wp2_with fail
        go_ret2
        exact ⟨rfl, hb1⟩
      · have hd1 : decide (r < 0) = false := by simpa using h0
        have hd2 : (Cn : Int) ≤ r := by omega
        clear hr h0
        go_enter Try.func29, Try.ntmps29
        go_wp2_with fail
        refine (hC _).mono ?_; rintro e w1 ⟨rfl, hb1⟩
        go_wp2_with fail
        go_ret2
        exact ⟨rfl, hb1⟩
  · rw [if_neg h]
    have hco : countO n = none := by unfold countO; rw [if_neg h]
    rw [hco] at hC
    unfold ansN at hC
    simp only [Option.getD_none, Option.isSome_none] at hC
    clear hco h
    go_enter Try.func29, Try.ntmps29
    go_wp2_with fail
    refine (hC _).mono ?_; rintro e w1 ⟨rfl, hb1⟩
    go_wp2_with fail
    go_ret2
    exact ⟨rfl, hb1⟩

theorem fnExactTreeAt_walk (a : Int) (ha : (Lit.int .i64 a).wf = true) (b : Int) (hb : (Lit.int .i64 b).wf = true) (w : World) :
    Calls Try.prog 8 #[.int .i64 a, .int .i64 b] w fun e w' => e = .returned (.bool true) ∧ Below w.heap.size w w' := by
  obtain ⟨loa, hia⟩ := i64_bounds ha
  obtain ⟨lob, hib⟩ := i64_bounds hb
  go_enter Try.func8, Try.ntmps8
  go_wp2_with fail
  refine (specTreeAt_any a b _  loa hia lob hib).mono ?_; rintro e w1 ⟨rfl, hb1⟩
  unfold ansV
  go_wp2_with fail
  refine (implTreeAt_any a b _  loa hia lob hib).mono ?_; rintro e w2 ⟨rfl, hb2⟩
  unfold ansV
  go_wp2_with fail
  go_ret
  exact ⟨rfl, nx hb1 hb2⟩
end Go.Proofs.Ytgmjchpcpocpoab
