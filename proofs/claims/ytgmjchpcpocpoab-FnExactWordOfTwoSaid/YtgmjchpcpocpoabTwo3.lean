/- Walk: spec.WordOfTwo. -/
import Derived.Test.YtgmjchpcpocpoabTwo2
import Derived.Test.YtgmjchpcpocpoabWd4
namespace Go.Proofs.Ytgmjchpcpocpoab
open Go.RowKit

set_option maxRecDepth 100000 in
set_option maxHeartbeats 4000000 in
theorem specTwo_yes (v : Value) (b1 : Nat) (L : List Int) (w : World) (hv : CellsI b1 w v L) (hg : goodW L = true) :
    Calls Try.prog 10 #[v] w (AnsIs (if (twoW L).length ≤ 300 then some (freeW (twoW L)) else none) w) := by
  obtain ⟨i0, hi, hz0, hz1, hz2⟩ := info_parts info_int
  have hG := wdGood_any v b1 L w hv
  rw [hg] at hG
  have hg2 := goodW_iff.1 hg
  have hTl := twoW_length hg
  have hTs := twoW_small hg2.2
  obtain ⟨hL20, hgz⟩ := hg2
  obtain ⟨oa, cap, rfl, hcl, hcm, hcc⟩ := hv.form
  unfold maxLen at hcm
  have HC := Lib.hid hcc
  have HZ := Lib.hid hgz
  obtain ⟨O, hO⟩ : ∃ O, O = (if (twoW L).length ≤ 300 then some (freeW (twoW L)) else none) := ⟨_, rfl⟩
  rw [← hO]
  have HO := Lib.hid hO
  clear hv hcc hgz hg hO
  go_enter Try.func10, Try.ntmps10
  go_wp2_with fail
  refine hG.mono ?_; rintro e w1 ⟨rfl, rfl⟩
  clear hG
  go_wp2_with fail
  go_loopw [4, 15] (fun u i wr => ∃ (k : Nat) (xs : List Int), i = .int .i64 k ∧ k ≤ L.length ∧ xs.length ≤ 39 * k ∧ OwnI w.heap.size wr u xs ∧ Below w.heap.size w wr ∧ Hid (xs = twoW (L.take k))) (fun _ i _ => L.length - (intOf i).toNat)
  case atStart => exact ⟨0, [], rfl, Nat.zero_le _, Nat.zero_le _, OwnI.nil _ _, Below.refl _ _, rfl⟩
  case round =>
    obtain ⟨k, xs, rfl, hk, hxl, hown, hbw, he⟩ := hrel
    by_cases hlt : k < L.length
    · have hlt' : (k : Int) < (L.length : Int) := by omega
      obtain ⟨g, rfl, _, hgl, c1⟩ := HC.out k hlt
      replace c1 := (hbw.cell (p := ⟨g, k, none⟩) hgl).trans c1
      have hxm : L.getD k 0 ∈ L := by rw [List.getD_eq_getElem?_getD, List.getElem?_eq_getElem hlt]; exact List.getElem_mem _
      obtain ⟨hx0, hx1, hx2⟩ := HZ.out _ hxm
      have hstep := twoW_take hlt
      rw [← he.out] at hstep
      have hTL := twoL_length hx0 hx1 hx2
      generalize L.getD k 0 = x at c1 hstep hTL hx0 hx1 hx2
      have hA := fun w => l1Abs_any x w (by omega) (by omega)
      obtain ⟨y, hy, hy20⟩ : ∃ y : Nat, absI x = (y : Int) + 1 ∧ y ≤ 20 := ⟨(absI x - 1).toNat, by unfold absI; split <;> omega, by unfold absI; split <;> omega⟩
      have hny : num x = (y : Int) := by unfold num; unfold absI at hy; split <;> split at hy <;> omega
      rw [hy] at hA
      clear he hgl hxm
      by_cases hy0 : y = 0
      · subst hy0
        have hB : twoL x = [x] := by unfold twoL; rw [if_pos (by omega)]
        rw [hB] at hstep hTL
        have HS := Lib.hid hstep
        clear hstep hB hny hy
        unfold OwnI at hown
        go_wp2_with fail
        refine (hA _).mono ?_; rintro e w2 ⟨rfl, rfl⟩
        go_wp2_with (at_builtin; refine wpList_append_own _ rfl _ _ 22 rfl w.heap.size 3 i0 (.int .i64 0) 1 8 Try.underlying22 hi hz0 hz1 hz2 rfl (by decide) _ _ _ rfl (hown.alloc _) ⟨wr.heap.size, 0, none⟩ 1 1 [.int .i64 x] rfl rfl (new1 _ _ _) (one1 _) (by unfold maxLen; omega) (by omega) (size_al hbw _) ?_; intro v' w4 hown' hgrow hnn)
        have hbw4 := below_app hbw hown (Nat.le_refl _) hgrow
        have hown3 : OwnI w.heap.size w4 v' (xs ++ [x]) := OwnI.snoc hown'
        clear hown hown' hgrow hbw hnn hA
        go_wp2_with fail
        go_roundw
        case rel => exact ⟨k + 1, _, by go_num, by omega, by simp; omega, hown3, hbw4, HS.out.symm⟩
        case measure => simp [intOf]; omega
      · obtain ⟨q, rfl⟩ : ∃ q, y = q + 1 := ⟨y - 1, by omega⟩
        have hB : twoL x = List.replicate q (-1) ++ ((if 0 < x then 2 else -2) :: List.replicate q 1) := by
          unfold twoL
          rw [if_neg (by omega), hny]
          have : (((q + 1 : Nat) : Int) - 1).toNat = q := by omega
          rw [this]
        rw [hB] at hstep hTL
        have hl39 : 2 * q + 1 ≤ 39 := by simp at hTL; omega
        have HS := Lib.hid hstep
        clear hstep hny hy hTL hB
        have hq0 : (((q : Int) + 1) == 0) = false := by rw [beq_eq_false_iff_ne]; omega
        go_wp2_with fail
        refine (hA _).mono ?_; rintro e w2 ⟨rfl, rfl⟩
        clear hA
        have hxl' : xs.length ≤ 39 * k := hxl
        have hown0 := hown
        have hbw0 := hbw
        clear hown hbw
        go_wp2_with fail
        go_loopw [4, 8] (fun u i wi => ∃ (j : Nat) (zs : List Int), i = .int .i64 ((j : Int) + 1) ∧ j ≤ q ∧ zs.length = xs.length + j ∧ OwnI w.heap.size wi u zs ∧ Below w.heap.size w wi ∧ Hid (zs = xs ++ List.replicate j (-1))) (fun _ i _ => q + 1 - (intOf i).toNat)
        case atStart => exact ⟨0, xs, rfl, Nat.zero_le _, rfl, hown0, hbw0, by show _ = _; simp⟩
        case round =>
          clear hown0 hbw0
          obtain ⟨j, zs, rfl, hj, hzl, hzo, hzb, hze⟩ := hrel
          by_cases hq : j < q
          · have hq' : (j : Int) + 1 < (q : Int) + 1 := by omega
            have hS1 : Hid (zs ++ [(-1 : Int)] = xs ++ List.replicate (j + 1) (-1)) := by show _ = _; rw [hze.out, List.replicate_succ', List.append_assoc]
            clear hze
            unfold OwnI at hzo
            go_wp2_with (at_builtin; refine wpList_append_own _ rfl _ _ 22 rfl w.heap.size 3 i0 (.int .i64 0) 1 8 Try.underlying22 hi hz0 hz1 hz2 rfl (by decide) _ _ _ rfl (hzo.alloc _) ⟨wr.heap.size, 0, none⟩ 1 1 [.int .i64 (-1)] rfl rfl (new1 _ _ _) (one1 _) (by unfold maxLen; omega) (by omega) (size_al hzb _) ?_; intro v' w4 hown' hgrow hnn)
            have hbw4 := below_app hzb hzo (Nat.le_refl _) hgrow
            have hown3 : OwnI w.heap.size w4 v' (zs ++ [(-1 : Int)]) := OwnI.snoc hown'
            clear hzo hown' hgrow hzb hnn
            go_wp2_with fail
            go_roundw
            case rel => exact ⟨j + 1, _, by go_num, by omega, by simp; omega, hown3, hbw4, hS1⟩
            case measure => simp [intOf]; omega
          · have hjq : q = j := by omega
            subst hjq
            by_cases hpos : 0 < x
            · have hpos' : (0 : Int) < x := hpos
              have hZ2 : Hid (zs ++ [(2 : Int)] = xs ++ List.replicate q (-1) ++ [2]) := by show _ = _; rw [hze.out]
              clear hze
              unfold OwnI at hzo
              go_wp2_with (at_builtin; refine wpList_append_own _ rfl _ _ 22 rfl w.heap.size 3 i0 (.int .i64 0) 1 8 Try.underlying22 hi hz0 hz1 hz2 rfl (by decide) _ _ _ rfl (hzo.alloc _) ⟨wr.heap.size, 0, none⟩ 1 1 [.int .i64 (2)] rfl rfl (new1 _ _ _) (one1 _) (by unfold maxLen; omega) (by omega) (size_al hzb _) ?_; intro v' w4 hown' hgrow hnn)
              have hb5 := below_app hzb hzo (Nat.le_refl _) hgrow
              have hown5 : OwnI w.heap.size w4 v' (zs ++ [(2 : Int)]) := OwnI.snoc hown'
              have hl5 : (zs ++ [(2 : Int)]).length = xs.length + q + 1 := by simp; omega
              clear hzo hown' hgrow hzb hnn
              generalize zs ++ [(2 : Int)] = ys at hown5 hl5 hZ2
              have HZ1 := hZ2
              clear hZ2 hzl
              go_wp2_with fail
              go_loopw [4, 9] (fun u i wi => ∃ (j : Nat) (zs : List Int), i = .int .i64 ((j : Int) + 1) ∧ j ≤ q ∧ zs.length = ys.length + j ∧ OwnI w.heap.size wi u zs ∧ Below w.heap.size w wi ∧ Hid (zs = ys ++ List.replicate j (1))) (fun _ i _ => q + 1 - (intOf i).toNat)
              case atStart => exact ⟨0, ys, rfl, Nat.zero_le _, rfl, hown5, hb5, by show _ = _; simp⟩
              case round =>
                clear hown5 hb5
                obtain ⟨j, zs, rfl, hj, hzl, hzo, hzb, hze⟩ := hrel
                by_cases hq : j < q
                · have hq' : (j : Int) + 1 < (q : Int) + 1 := by omega
                  have hS1 : Hid (zs ++ [(1 : Int)] = ys ++ List.replicate (j + 1) (1)) := by show _ = _; rw [hze.out, List.replicate_succ', List.append_assoc]
                  clear hze
                  unfold OwnI at hzo
                  go_wp2_with (at_builtin; refine wpList_append_own _ rfl _ _ 22 rfl w.heap.size 3 i0 (.int .i64 0) 1 8 Try.underlying22 hi hz0 hz1 hz2 rfl (by decide) _ _ _ rfl (hzo.alloc _) ⟨wr.heap.size, 0, none⟩ 1 1 [.int .i64 (1)] rfl rfl (new1 _ _ _) (one1 _) (by unfold maxLen; omega) (by omega) (size_al hzb _) ?_; intro v' w4 hown' hgrow hnn)
                  have hbw4 := below_app hzb hzo (Nat.le_refl _) hgrow
                  have hown3 : OwnI w.heap.size w4 v' (zs ++ [(1 : Int)]) := OwnI.snoc hown'
                  clear hzo hown' hgrow hzb hnn
                  go_wp2_with fail
                  go_roundw
                  case rel => exact ⟨j + 1, _, by go_num, by omega, by simp; omega, hown3, hbw4, hS1⟩
                  case measure => simp [intOf]; omega
                · have hjq : q = j := by omega
                  subst hjq
                  have hfin : Hid (zs = twoW (L.take (k + 1))) := by show _ = _; rw [hze.out, HZ1.out, HS.out]; simp [hpos]
                  clear hze HZ1
                  go_wp2_with fail
                  go_roundw
                  case rel => exact ⟨k + 1, zs, by go_num, by omega, by omega, hzo, hzb, hfin⟩
                  case measure => simp [intOf]; omega
            · have hpos' : x ≤ 0 := by omega
              have hZ2 : Hid (zs ++ [(-2 : Int)] = xs ++ List.replicate q (-1) ++ [-2]) := by show _ = _; rw [hze.out]
              clear hze
              unfold OwnI at hzo
              go_wp2_with (at_builtin; refine wpList_append_own _ rfl _ _ 22 rfl w.heap.size 3 i0 (.int .i64 0) 1 8 Try.underlying22 hi hz0 hz1 hz2 rfl (by decide) _ _ _ rfl (hzo.alloc _) ⟨wr.heap.size, 0, none⟩ 1 1 [.int .i64 (-2)] rfl rfl (new1 _ _ _) (one1 _) (by unfold maxLen; omega) (by omega) (size_al hzb _) ?_; intro v' w4 hown' hgrow hnn)
              have hb5 := below_app hzb hzo (Nat.le_refl _) hgrow
              have hown5 : OwnI w.heap.size w4 v' (zs ++ [(-2 : Int)]) := OwnI.snoc hown'
              have hl5 : (zs ++ [(-2 : Int)]).length = xs.length + q + 1 := by simp; omega
              clear hzo hown' hgrow hzb hnn
              generalize zs ++ [(-2 : Int)] = ys at hown5 hl5 hZ2
              have HZ1 := hZ2
              clear hZ2 hzl
              go_wp2_with fail
              go_loopw [4, 9] (fun u i wi => ∃ (j : Nat) (zs : List Int), i = .int .i64 ((j : Int) + 1) ∧ j ≤ q ∧ zs.length = ys.length + j ∧ OwnI w.heap.size wi u zs ∧ Below w.heap.size w wi ∧ Hid (zs = ys ++ List.replicate j (1))) (fun _ i _ => q + 1 - (intOf i).toNat)
              case atStart => exact ⟨0, ys, rfl, Nat.zero_le _, rfl, hown5, hb5, by show _ = _; simp⟩
              case round =>
                clear hown5 hb5
                obtain ⟨j, zs, rfl, hj, hzl, hzo, hzb, hze⟩ := hrel
                by_cases hq : j < q
                · have hq' : (j : Int) + 1 < (q : Int) + 1 := by omega
                  have hS1 : Hid (zs ++ [(1 : Int)] = ys ++ List.replicate (j + 1) (1)) := by show _ = _; rw [hze.out, List.replicate_succ', List.append_assoc]
                  clear hze
                  unfold OwnI at hzo
                  go_wp2_with (at_builtin; refine wpList_append_own _ rfl _ _ 22 rfl w.heap.size 3 i0 (.int .i64 0) 1 8 Try.underlying22 hi hz0 hz1 hz2 rfl (by decide) _ _ _ rfl (hzo.alloc _) ⟨wr.heap.size, 0, none⟩ 1 1 [.int .i64 (1)] rfl rfl (new1 _ _ _) (one1 _) (by unfold maxLen; omega) (by omega) (size_al hzb _) ?_; intro v' w4 hown' hgrow hnn)
                  have hbw4 := below_app hzb hzo (Nat.le_refl _) hgrow
                  have hown3 : OwnI w.heap.size w4 v' (zs ++ [(1 : Int)]) := OwnI.snoc hown'
                  clear hzo hown' hgrow hzb hnn
                  go_wp2_with fail
                  go_roundw
                  case rel => exact ⟨j + 1, _, by go_num, by omega, by simp; omega, hown3, hbw4, hS1⟩
                  case measure => simp [intOf]; omega
                · have hjq : q = j := by omega
                  subst hjq
                  have hfin : Hid (zs = twoW (L.take (k + 1))) := by show _ = _; rw [hze.out, HZ1.out, HS.out]; simp [hpos]
                  clear hze HZ1
                  go_wp2_with fail
                  go_roundw
                  case rel => exact ⟨k + 1, zs, by go_num, by omega, by omega, hzo, hzb, hfin⟩
                  case measure => simp [intOf]; omega
    · obtain rfl : k = L.length := by omega
      have he' := he.out
      rw [List.take_length] at he'
      subst he'
      clear he hxl
      have HP := HO.out
      clear HO
      generalize twoW L = T at *
      obtain ⟨ob, bcap, rfl, hf1, hf2, hfc⟩ := hown.cells.form
      have hF := fun hl => wdFree_any _ _ T wr hown.cells hTs (by exact hl)
      unfold maxLen at hf2
      by_cases h3 : T.length ≤ 300
      · rw [if_pos h3] at HP
        subst HP
        have hF' := hF (by omega)
        have h3' : ¬ (300 : Int) < (T.length : Int) := by omega
        clear hF hfc hTs hTl hown
        go_wp2_with fail
        refine hF'.mono ?_; rintro e w5 ⟨vf, ownf, hb5, rfl⟩
        go_wp2_with fail
        go_ret2
        exact ⟨_, ownf.mono hbw.size, nx hbw hb5, rfl⟩
      · rw [if_neg h3] at HP
        subst HP
        have h3' : (300 : Int) < (T.length : Int) := by omega
        clear hF hfc hTs hTl hown
        go_wp2_with fail
        go_ret2
        exact ⟨_, OwnI.nil _ _, hbw, rfl⟩

theorem specTwo_any (v : Value) (b1 : Nat) (L : List Int) (w : World) (hv : CellsI b1 w v L) (_hz : ∀ s ∈ L, -9223372036854775808 ≤ s ∧ s ≤ 9223372036854775807) :
    Calls Try.prog 10 #[v] w (AnsIs (twoO L) w) := by
  unfold twoO
  cases hg : goodW L with
  | true =>
    rw [if_pos rfl]
    exact specTwo_yes v b1 L w hv hg
  | false =>
    have hG := wdGood_any v b1 L w hv
    rw [hg] at hG
    rw [if_neg (by simp)]
    clear hg hv _hz
    go_enter Try.func10, Try.ntmps10
    go_wp2_with fail
    refine hG.mono ?_; rintro e w1 ⟨rfl, rfl⟩
    go_wp2_with fail
    go_ret2
    exact ⟨_, OwnI.nil _ _, Below.refl _ _, rfl⟩
end Go.Proofs.Ytgmjchpcpocpoab
