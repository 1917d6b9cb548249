/- Walks: a word, if it is one; ShiftWord of both sides. -/
import Derived.Test.YtlcepokenaiggabWd2
namespace Go.Proofs.Ytlcepokenaiggab
open Go.RowKit


theorem wdIf_yes (v : Value) (b1 : Nat) (L : List Int) (w : World) (hv : CellsI b1 w v L) (hg : goodW L = true) :
    Calls Try.prog 23 #[v] w fun e w' => e = .returned (.tuple #[v, .bool true]) ∧ w = w' := by
  have hG := wdGood_any v b1 L w hv
  rw [hg] at hG
  clear hg hv
  go_enter Try.func23, Try.ntmps23
  go_wp2_with fail
  refine hG.mono ?_; rintro e w1 ⟨rfl, rfl⟩
  go_wp2_with fail
  go_ret2
  exact ⟨rfl, rfl⟩

theorem wdIf_no (v : Value) (b1 : Nat) (L : List Int) (w : World) (hv : CellsI b1 w v L) (hg : goodW L = false) :
    Calls Try.prog 23 #[v] w fun e w' => e = .returned (.tuple #[.slice none 0 0, .bool false]) ∧ w = w' := by
  have hG := wdGood_any v b1 L w hv
  rw [hg] at hG
  clear hg hv
  go_enter Try.func23, Try.ntmps23
  go_wp2_with fail
  refine hG.mono ?_; rintro e w1 ⟨rfl, rfl⟩
  go_wp2_with fail
  go_ret2
  exact ⟨rfl, rfl⟩

/-- Of a slice of the call's own. -/
theorem wdIf_own (v : Value) (base : Nat) (L : List Int) (w : World) (hv : OwnI base w v L) :
    Calls Try.prog 23 #[v] w fun e w' => ∃ u, e = .returned (.tuple #[u, .bool (ifW L).isSome]) ∧ OwnI base w u ((ifW L).getD []) ∧ w = w' := by
  unfold ifW
  cases hg : goodW L with
  | false => exact (wdIf_no v base L w hv.cells hg).mono fun e w' ⟨he, hw⟩ => ⟨_, he, OwnI.nil _ _, hw⟩
  | true => exact (wdIf_yes v base L w hv.cells hg).mono fun e w' ⟨he, hw⟩ => ⟨_, he, hv, hw⟩

theorem wordWithinLimits_yes (v : Value) (b1 : Nat) (L : List Int) (w : World) (hv : CellsI b1 w v L) (hg : goodW L = true) :
    Calls Try.prog 25 #[v] w fun e w' => e = .returned (.tuple #[v, .bool true]) ∧ w = w' := by
  have hG := implIsWord_any v b1 L w hv
  rw [hg] at hG
  clear hg hv
  go_enter Try.func25, Try.ntmps25
  go_wp2_with fail
  refine hG.mono ?_; rintro e w1 ⟨rfl, rfl⟩
  go_wp2_with fail
  go_ret2
  exact ⟨rfl, rfl⟩

theorem wordWithinLimits_no (v : Value) (b1 : Nat) (L : List Int) (w : World) (hv : CellsI b1 w v L) (hg : goodW L = false) :
    Calls Try.prog 25 #[v] w fun e w' => e = .returned (.tuple #[.slice none 0 0, .bool false]) ∧ w = w' := by
  have hG := implIsWord_any v b1 L w hv
  rw [hg] at hG
  clear hg hv
  go_enter Try.func25, Try.ntmps25
  go_wp2_with fail
  refine hG.mono ?_; rintro e w1 ⟨rfl, rfl⟩
  go_wp2_with fail
  go_ret2
  exact ⟨rfl, rfl⟩

/-- Of a slice of the call's own. -/
theorem wordWithinLimits_own (v : Value) (base : Nat) (L : List Int) (w : World) (hv : OwnI base w v L) :
    Calls Try.prog 25 #[v] w fun e w' => ∃ u, e = .returned (.tuple #[u, .bool (ifW L).isSome]) ∧ OwnI base w u ((ifW L).getD []) ∧ w = w' := by
  unfold ifW
  cases hg : goodW L with
  | false => exact (wordWithinLimits_no v base L w hv.cells hg).mono fun e w' ⟨he, hw⟩ => ⟨_, he, OwnI.nil _ _, hw⟩
  | true => exact (wordWithinLimits_yes v base L w hv.cells hg).mono fun e w' ⟨he, hw⟩ => ⟨_, he, hv, hw⟩

theorem raised_any (x k : Int) (w : World) (h1 : -1000 ≤ x) (h2 : x ≤ 1000) (h3 : -1000 ≤ k) (h4 : k ≤ 1000) :
    Calls Try.prog 39 #[.int .i64 x, .int .i64 k] w fun e w' => e = .returned (.int .i64 (up k x)) ∧ w = w' := by
  unfold up
  by_cases h : x < 0
  · rw [if_pos h]
    go_enter Try.func39, Try.ntmps39
    go_wp2_with fail
    go_ret
    exact ⟨rfl, rfl⟩
  · rw [if_neg h]
    go_enter Try.func39, Try.ntmps39
    go_wp2_with fail
    go_ret
    exact ⟨rfl, rfl⟩
theorem up_take {k : Int} {L : List Int} {j : Nat} (h : j < L.length) : upW k (L.take (j + 1)) = upW k (L.take j) ++ [up k (L.getD j 0)] := by
  unfold upW
  rw [List.take_succ_eq_append_getElem h, List.map_append]
  simp [h]

set_option maxRecDepth 100000 in
set_option maxHeartbeats 2000000 in
theorem raisedAll_any (v : Value) (b1 : Nat) (L : List Int) (q : Int) (w : World) (hv : CellsI b1 w v L) (hz : ∀ x ∈ L, -100 ≤ x ∧ x ≤ 100) (hL : L.length ≤ 1000) (hq1 : -1000 ≤ q) (hq2 : q ≤ 1000) :
    Calls Try.prog 36 #[v, .int .i64 q] w (GivesInts (upW q L) w) := by
  obtain ⟨i0, hi, hz0, hz1, hz2⟩ := info_parts info_int
  obtain ⟨oa, cap, rfl, hcl, hcm, hcc⟩ := hv.form
  unfold maxLen at hcm
  clear hv
  have HC := Lib.hid hcc
  have HZ := Lib.hid hz
  clear hcc hz
  go_enter Try.func36, Try.ntmps36
  go_wp2_with fail
  go_loopw [5, 10] (fun u i wr => ∃ (k : Nat) (xs : List Int), i = .int .i64 k ∧ k ≤ L.length ∧ xs.length = k ∧ OwnI w.heap.size wr u xs ∧ Below w.heap.size w wr ∧ Hid (xs = upW q (L.take k))) (fun _ i _ => L.length - (intOf i).toNat)
  case atStart => exact ⟨0, [], rfl, Nat.zero_le _, rfl, OwnI.nil _ _, Below.refl _ _, rfl⟩
  case round =>
    obtain ⟨k, xs, rfl, hk, hxl, hown, hbw, he⟩ := hrel
    have HX := Lib.hid hxl
    unfold OwnI at hown
    rw [hxl] at hown
    clear hxl
    by_cases hlt : k < L.length
    · have hlt' : (k : Int) < (L.length : Int) := by omega
      obtain ⟨g, rfl, _, hgl, c1⟩ := HC.out k hlt
      replace c1 := (hbw.cell (p := ⟨g, k, none⟩) hgl).trans c1
      have hxm : L.getD k 0 ∈ L := by rw [List.getD_eq_getElem?_getD, List.getElem?_eq_getElem hlt]; exact List.getElem_mem _
      obtain ⟨hx1, hx2⟩ := HZ.out _ hxm
      have hstep := up_take (k := q) hlt
      rw [← he.out] at hstep
      generalize L.getD k 0 = x at c1 hx1 hx2 hstep
      have hR := fun w => raised_any x q w (by omega) (by omega) hq1 hq2
      generalize up q x = y at hstep hR
      have HS := Lib.hid hstep
      clear hxm he hgl hstep
      go_wp2_with fail
      refine (hR _).mono ?_; rintro e w2 ⟨rfl, rfl⟩
      go_wp2_with (at_builtin; refine wpList_append_own _ rfl _ _ 22 rfl w.heap.size 3 i0 (.int .i64 0) 1 8 Try.underlying22 hi hz0 hz1 hz2 rfl (by decide) _ _ _ rfl (hown.alloc _) ⟨wr.heap.size, 0, none⟩ 1 1 [.int .i64 y] rfl rfl (new1 _ _ _) (one1 _) (by unfold maxLen; omega) (by omega) (size_al hbw _) ?_; intro v' w1 hown' hgrow hnn)
      have hbw' := below_app hbw hown (Nat.le_refl _) hgrow
      have hown1 : OwnI w.heap.size w1 v' (xs ++ [y]) := OwnI.snoc (by rw [HX.out]; exact hown')
      clear hown hown' hgrow hbw hnn
      go_wp2_with fail
      go_roundw
      case rel => exact ⟨k + 1, _, by go_num, by omega, by have := HX.out; simp; omega, hown1, hbw', HS.out.symm⟩
      case measure => simp [intOf]; omega
    · obtain rfl : k = L.length := by omega
      have he' := he.out
      rw [List.take_length] at he'
      have HE := Lib.hid he'
      clear he he'
      go_wp2_with fail
      go_ret
      exact ⟨_, by rw [← HE.out]; unfold OwnI; rw [HX.out]; exact hown, hbw, rfl⟩

def ShiftWord_o (L : List Int) (q : Int) : Option (List Int) := if goodW L = true then if 0 ≤ q ∧ q ≤ 20 then ifW (upW q L) else none else none
theorem ShiftWord_len (L : List Int) (q : Int) : ((ShiftWord_o L q).getD []).length ≤ 1000000000 := by
  unfold ShiftWord_o ifW
  split
  · next h =>
    have := (goodW_iff.1 h).1
    split
    · split
      · simp [upW]; omega
      · simp
    · simp
  · simp
theorem up_pos {q x : Int} (h : 0 < x) : up q x = x + q := by unfold up; rw [if_neg (by omega)]
theorem up_neg {q x : Int} (h : ¬ 0 < x) (h0 : x ≠ 0) : up q x = x - q := by unfold up; rw [if_pos (by omega)]

end Go.Proofs.Ytlcepokenaiggab
