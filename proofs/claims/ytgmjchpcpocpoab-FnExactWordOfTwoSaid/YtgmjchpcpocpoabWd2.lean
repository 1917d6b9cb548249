/- Walks: FreeReduce, ShiftWord of both sides, without their guards. -/
import Derived.Test.YtgmjchpcpocpoabWd1
import Derived.IntWalk
namespace Go.Proofs.Ytgmjchpcpocpoab
open Go.RowKit

theorem OwnI.cut {base : Nat} {w : World} {oa : Option Addr} {m cap : Nat} {xs : List Int} (h : OwnI base w (.slice oa m cap) xs) (n : Nat) (hn : n ≤ xs.length) (hm : xs.length = m) : OwnI base w (.slice oa n cap) (xs.take n) := by
  obtain ⟨h1, h2⟩ := h
  have hl : (xs.take n).length = n := by rw [List.length_take]; omega
  unfold OwnI
  rw [hl]
  refine ⟨by simp; omega, ?_⟩
  rcases h2 with ⟨hv, hn0⟩ | ⟨g, cap', cur, hv, hb, hh, r1, r2, r3, r4⟩
  · cases hv
    obtain rfl : n = 0 := by omega
    exact .inl ⟨rfl, rfl⟩
  · cases hv
    refine .inr ⟨g, cap, cur, rfl, hb, hh, by omega, r2, r3, ?_⟩
    rw [List.map_take, ← r4, List.take_take, Nat.min_eq_left (by omega), Nat.mul_one]


set_option maxRecDepth 100000 in
set_option maxHeartbeats 2000000 in
theorem wdFree_any (v : Value) (b1 : Nat) (L : List Int) (w : World) (hv : CellsI b1 w v L) (hz : ∀ x ∈ L, -100 ≤ x ∧ x ≤ 100) (hL : L.length ≤ 1000) :
    Calls Try.prog 34 #[v] w (GivesInts (freeW L) w) := by
  obtain ⟨i0, hi, hz0, hz1, hz2⟩ := info_parts info_int
  obtain ⟨oa, cap, rfl, hcl, hcm, hcc⟩ := hv.form
  unfold maxLen at hcm
  clear hv
  have HC := Lib.hid hcc
  have HZ := Lib.hid hz
  clear hcc hz
  go_enter Try.func34, Try.ntmps34
  go_wp2_with fail
  go_loopw [3, 9] (fun u i wr => ∃ (k : Nat) (xs : List Int), i = .int .i64 k ∧ k ≤ L.length ∧ xs.length ≤ k ∧ OwnI w.heap.size wr u xs ∧ Below w.heap.size w wr ∧ Hid (xs = freeW (L.take k))) (fun _ i _ => L.length - (intOf i).toNat)
  case atStart => exact ⟨0, [], rfl, Nat.zero_le _, Nat.zero_le _, OwnI.nil _ _, Below.refl _ _, rfl⟩
  case round =>
    obtain ⟨k, xs, rfl, hk, hxl, hown, hbw, he⟩ := hrel
    obtain ⟨ob, bcap, rfl, hf1, hf2, hfc⟩ := hown.cells.form
    unfold maxLen at hf2
    by_cases hlt : k < L.length
    · have hlt' : (k : Int) < (L.length : Int) := by omega
      obtain ⟨g, rfl, _, hgl, c1⟩ := HC.out k hlt
      replace c1 := (hbw.cell (p := ⟨g, k, none⟩) hgl).trans c1
      have hxm : L.getD k 0 ∈ L := by rw [List.getD_eq_getElem?_getD, List.getElem?_eq_getElem hlt]; exact List.getElem_mem _
      have hxb := HZ.out _ hxm
      have hstep := freeW_take hlt
      rw [← he.out] at hstep
      generalize L.getD k 0 = x at c1 hxb hstep
      obtain ⟨hx1, hx2⟩ := hxb
      clear hxm he hgl
      cases hn : xs.length with
      | zero =>
        obtain rfl : xs = [] := List.length_eq_zero_iff.1 hn
        have HS : Hid ([] ++ [x] = freeW (L.take (k + 1))) := by show _ = _; rw [hstep]; rfl
        clear hstep hn hfc
        have hd0 : decide ((0 : Int) ≤ -1) = false := by decide
        have hown0 : World.ownsRow wr w.heap.size 3 1 (.slice ob 0 bcap) 0 [] := hown
        clear hown
        go_wp2_with (at_builtin; refine wpList_append_own _ rfl _ _ 22 rfl w.heap.size 3 i0 (.int .i64 0) 1 8 Try.underlying22 hi hz0 hz1 hz2 rfl (by decide) _ _ _ rfl (hown0.alloc _) ⟨wr.heap.size, 0, none⟩ 1 1 [.int .i64 x] rfl rfl (new1 _ _ _) (one1 _) (by unfold maxLen; omega) (by omega) (size_al hbw _) ?_; intro v' w1 hown' hgrow hnn)
        have hbw' := below_app hbw hown0 (Nat.le_refl _) hgrow
        have hown1 := OwnI.snoc (xs := []) hown'
        clear hown0 hown' hgrow hbw hnn
        go_wp2_with fail
        go_roundw
        case rel => exact ⟨k + 1, _, by go_num, by omega, by simp, hown1, hbw', HS⟩
        case measure => simp [intOf]; omega
      | succ n =>
        rw [hn] at hown
        obtain ⟨g2, rfl, _, hg2, c2⟩ := hfc n (by omega)
        have hfr := free1_last (out := xs) (x := x) (by omega)
        rw [hn, Nat.add_sub_cancel] at hfr
        rw [hfr] at hstep
        generalize hy : xs.getD n 0 = y at c2 hstep
        have HY := Lib.hid hy
        have HN := Lib.hid hn
        have hnk : n + 1 ≤ k := by omega
        have hnb : n + 1 ≤ bcap := by omega
        by_cases hq : y = -x
        · rw [if_pos hq] at hstep
          have HS : Hid (xs.take n = freeW (L.take (k + 1))) := hstep.symm
          have hq' : (y == -x) = true := by rw [beq_iff_eq]; exact hq
          have hown1 := OwnI.cut hown n (by omega) hn
          have hd1 : (0 : Int) ≤ (n : Int) := by omega
          clear hstep hfr hy hq hn hfc hown
          go_wp2_with fail
          go_roundw
          case rel => exact ⟨k + 1, _, by go_num, by omega, by have := HN.out; simp; omega, hown1, hbw, HS⟩
          case measure => simp [intOf]; omega
        · rw [if_neg hq] at hstep
          have HS : Hid (xs ++ [x] = freeW (L.take (k + 1))) := hstep.symm
          have hq' : (y == -x) = false := by rw [beq_eq_false_iff_ne]; exact hq
          have hd1 : (0 : Int) ≤ (n : Int) := by omega
          unfold OwnI at hown
          rw [hn] at hown
          clear hstep hfr hy hq hn hfc
          go_wp2_with (at_builtin; refine wpList_append_own _ rfl _ _ 22 rfl w.heap.size 3 i0 (.int .i64 0) 1 8 Try.underlying22 hi hz0 hz1 hz2 rfl (by decide) _ _ _ rfl (hown.alloc _) ⟨wr.heap.size, 0, none⟩ 1 1 [.int .i64 x] rfl rfl (new1 _ _ _) (one1 _) (by unfold maxLen; omega) (by omega) (size_al hbw _) ?_; intro v' w1 hown' hgrow hnn)
          have hbw' := below_app hbw hown (Nat.le_refl _) hgrow
          have hown1 : OwnI w.heap.size w1 v' (xs ++ [x]) := OwnI.snoc (by rw [HN.out]; exact hown')
          clear hown hown' hgrow hbw hnn
          go_wp2_with fail
          go_roundw
          case rel => exact ⟨k + 1, _, by go_num, by omega, by have := HN.out; simp; omega, hown1, hbw', HS⟩
          case measure => simp [intOf]; omega
    · obtain rfl : k = L.length := by omega
      have he' := he.out
      rw [List.take_length] at he'
      have HE := Lib.hid he'
      clear he he' hfc
      go_wp2_with fail
      go_ret
      exact ⟨_, by rw [← HE.out]; exact hown, hbw, rfl⟩

set_option maxRecDepth 100000 in
set_option maxHeartbeats 2000000 in
theorem freelyReduced_any (v : Value) (b1 : Nat) (L : List Int) (w : World) (hv : CellsI b1 w v L) (hz : ∀ x ∈ L, -100 ≤ x ∧ x ≤ 100) (hL : L.length ≤ 1000) :
    Calls Try.prog 37 #[v] w (GivesInts (freeW L) w) := by
  obtain ⟨i0, hi, hz0, hz1, hz2⟩ := info_parts info_int
  obtain ⟨oa, cap, rfl, hcl, hcm, hcc⟩ := hv.form
  unfold maxLen at hcm
  clear hv
  have HC := Lib.hid hcc
  have HZ := Lib.hid hz
  clear hcc hz
  go_enter Try.func37, Try.ntmps37
  go_wp2_with fail
  go_loopw [3, 9] (fun u i wr => ∃ (k : Nat) (xs : List Int), i = .int .i64 k ∧ k ≤ L.length ∧ xs.length ≤ k ∧ OwnI w.heap.size wr u xs ∧ Below w.heap.size w wr ∧ Hid (xs = freeW (L.take k))) (fun _ i _ => L.length - (intOf i).toNat)
  case atStart => exact ⟨0, [], rfl, Nat.zero_le _, Nat.zero_le _, OwnI.nil _ _, Below.refl _ _, rfl⟩
  case round =>
    obtain ⟨k, xs, rfl, hk, hxl, hown, hbw, he⟩ := hrel
    obtain ⟨ob, bcap, rfl, hf1, hf2, hfc⟩ := hown.cells.form
    unfold maxLen at hf2
    by_cases hlt : k < L.length
    · have hlt' : (k : Int) < (L.length : Int) := by omega
      obtain ⟨g, rfl, _, hgl, c1⟩ := HC.out k hlt
      replace c1 := (hbw.cell (p := ⟨g, k, none⟩) hgl).trans c1
      have hxm : L.getD k 0 ∈ L := by rw [List.getD_eq_getElem?_getD, List.getElem?_eq_getElem hlt]; exact List.getElem_mem _
      have hxb := HZ.out _ hxm
      have hstep := freeW_take hlt
      rw [← he.out] at hstep
      generalize L.getD k 0 = x at c1 hxb hstep
      obtain ⟨hx1, hx2⟩ := hxb
      clear hxm he hgl
      cases hn : xs.length with
      | zero =>
        obtain rfl : xs = [] := List.length_eq_zero_iff.1 hn
        have HS : Hid ([] ++ [x] = freeW (L.take (k + 1))) := by show _ = _; rw [hstep]; rfl
        clear hstep hn hfc
        have hd0 : decide ((0 : Int) ≤ -1) = false := by decide
        have hown0 : World.ownsRow wr w.heap.size 3 1 (.slice ob 0 bcap) 0 [] := hown
        clear hown
        go_wp2_with (at_builtin; refine wpList_append_own _ rfl _ _ 22 rfl w.heap.size 3 i0 (.int .i64 0) 1 8 Try.underlying22 hi hz0 hz1 hz2 rfl (by decide) _ _ _ rfl (hown0.alloc _) ⟨wr.heap.size, 0, none⟩ 1 1 [.int .i64 x] rfl rfl (new1 _ _ _) (one1 _) (by unfold maxLen; omega) (by omega) (size_al hbw _) ?_; intro v' w1 hown' hgrow hnn)
        have hbw' := below_app hbw hown0 (Nat.le_refl _) hgrow
        have hown1 := OwnI.snoc (xs := []) hown'
        clear hown0 hown' hgrow hbw hnn
        go_wp2_with fail
        go_roundw
        case rel => exact ⟨k + 1, _, by go_num, by omega, by simp, hown1, hbw', HS⟩
        case measure => simp [intOf]; omega
      | succ n =>
        rw [hn] at hown
        obtain ⟨g2, rfl, _, hg2, c2⟩ := hfc n (by omega)
        have hfr := free1_last (out := xs) (x := x) (by omega)
        rw [hn, Nat.add_sub_cancel] at hfr
        rw [hfr] at hstep
        generalize hy : xs.getD n 0 = y at c2 hstep
        have HY := Lib.hid hy
        have HN := Lib.hid hn
        have hnk : n + 1 ≤ k := by omega
        have hnb : n + 1 ≤ bcap := by omega
        by_cases hq : y = -x
        · rw [if_pos hq] at hstep
          have HS : Hid (xs.take n = freeW (L.take (k + 1))) := hstep.symm
          have hq' : (y == -x) = true := by rw [beq_iff_eq]; exact hq
          have hown1 := OwnI.cut hown n (by omega) hn
          have hd1 : (0 : Int) ≤ (n : Int) := by omega
          clear hstep hfr hy hq hn hfc hown
          go_wp2_with fail
          go_roundw
          case rel => exact ⟨k + 1, _, by go_num, by omega, by have := HN.out; simp; omega, hown1, hbw, HS⟩
          case measure => simp [intOf]; omega
        · rw [if_neg hq] at hstep
          have HS : Hid (xs ++ [x] = freeW (L.take (k + 1))) := hstep.symm
          have hq' : (y == -x) = false := by rw [beq_eq_false_iff_ne]; exact hq
          have hd1 : (0 : Int) ≤ (n : Int) := by omega
          unfold OwnI at hown
          rw [hn] at hown
          clear hstep hfr hy hq hn hfc
          go_wp2_with (at_builtin; refine wpList_append_own _ rfl _ _ 22 rfl w.heap.size 3 i0 (.int .i64 0) 1 8 Try.underlying22 hi hz0 hz1 hz2 rfl (by decide) _ _ _ rfl (hown.alloc _) ⟨wr.heap.size, 0, none⟩ 1 1 [.int .i64 x] rfl rfl (new1 _ _ _) (one1 _) (by unfold maxLen; omega) (by omega) (size_al hbw _) ?_; intro v' w1 hown' hgrow hnn)
          have hbw' := below_app hbw hown (Nat.le_refl _) hgrow
          have hown1 : OwnI w.heap.size w1 v' (xs ++ [x]) := OwnI.snoc (by rw [HN.out]; exact hown')
          clear hown hown' hgrow hbw hnn
          go_wp2_with fail
          go_roundw
          case rel => exact ⟨k + 1, _, by go_num, by omega, by have := HN.out; simp; omega, hown1, hbw', HS⟩
          case measure => simp [intOf]; omega
    · obtain rfl : k = L.length := by omega
      have he' := he.out
      rw [List.take_length] at he'
      have HE := Lib.hid he'
      clear he he' hfc
      go_wp2_with fail
      go_ret
      exact ⟨_, by rw [← HE.out]; exact hown, hbw, rfl⟩
end Go.Proofs.Ytgmjchpcpocpoab
