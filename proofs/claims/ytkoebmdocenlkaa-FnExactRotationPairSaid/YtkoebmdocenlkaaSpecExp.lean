/- Walk: spec.trExposed. -/
import Derived.Test.YtkoebmdocenlkaaRow
import Derived.Test.YtkoebmdocenlkaaExpoP
namespace Go.Proofs.Ytkoebmdocenlkaa
open Go.RowKit

set_option maxRecDepth 100000 in
set_option maxHeartbeats 2000000 in
theorem trExposed_any (s : ByteArray) (w : World) (hs : s.size ≤ 1000) :
    Calls Try.prog 116 #[.string s] w (GivesInts (exL s.data.toList 0) w) := by
  obtain ⟨i0, hi, hz0, hz1, hz2⟩ := info_parts info_int
  go_enter Try.func116, Try.ntmps116
  go_wp2_with fail
  go_loopw [3, 4, 5] (fun v n i wr => ∃ (k : Nat) (m : Int) (xs : List Int), k ≤ s.size ∧ 0 ≤ m ∧ m ≤ k ∧ i = .int .i64 k ∧ n = .int .i64 m ∧ xs.length ≤ k ∧ OwnI w.heap.size wr v xs ∧ Below w.heap.size w wr ∧ Hid (exL s.data.toList 0 = xs ++ (pend s.data.toList k m ++ exL (s.data.toList.drop k) m))) (fun _ _ i _ => s.size - (intOf i).toNat)
  case atStart => exact ⟨0, 0, [], Nat.zero_le _, by omega, by omega, rfl, rfl, Nat.le_refl _, OwnI.nil _ _, Below.refl _ _, by show _ = _; rw [pend_zero]; rfl⟩
  case round =>
    obtain ⟨k, m, xs, hk, hm0, hm1, rfl, rfl, hxl, hown, hbw, he⟩ := hrel
    by_cases hlt : k < s.size
    · obtain ⟨c, r, hd, hb, hr⟩ := drop_of_byteAt hlt
      have hstep := exL_step (n := m) hd
      have hx : ((s[k]'hlt).toNat : Int) = (c.toNat : Int) := by rw [← hb]; exact (byteAt_eq s k hlt).symm
      have h46 : (((s[k]'hlt).toNat : Int) == 46) = decide (c = 46) := by
        rw [hx, Bool.eq_iff_iff]
        simp only [beq_iff_eq, decide_eq_true_eq]
        exact ⟨fun e => u8_eq (n := 46) (by omega) e, fun e => by rw [e]; rfl⟩
      have H46 := Lib.hid h46
      have HS := Lib.hid hstep
      clear hd hb hr hx h46 hstep
      by_cases hP : 0 < k ∧ expB (s.data.toList.drop (k - 1)) = true
      · have hpend : Hid (pend s.data.toList k m = [m]) := by show _ = _; unfold pend; rw [if_pos hP]
        obtain ⟨hk0, hE⟩ := hP
        have h1 : (0 : Int) < k := by omega
        have h2 : (k : Int) + 2 < s.size := by have := expB_drop hE; rw [← Lib.size_eq] at this; omega
        have h3 : ((s.extract (k - 1) (k + 3)).toList == [40, 46, 46, 41]) = true := by rw [← expB_extract s k hk0]; exact hE
        clear hE
        by_cases hc : c = 46
        all_goals
          have h4 := H46.out
          simp only [hc, decide_true, decide_false] at h4
          have HC := Lib.hid hc
          clear hc
          go_wp2_with (at_builtin; refine wpList_append_own _ rfl _ _ 40 rfl w.heap.size 3 i0 (.int .i64 0) 1 8 Try.underlying40 hi hz0 hz1 hz2 rfl (by decide) _ _ _ rfl (hown.alloc _) ⟨wr.heap.size, 0, none⟩ 1 1 [.int .i64 m] rfl rfl (new1 _ _ _) (one1 _) (by unfold maxLen; omega) (by omega) (size_al hbw _) ?_; intro v' w1 hown' hgrow hnn)
          have hbw' := below_app hbw hown (Nat.le_refl _) hgrow
          have hown1 := OwnI.snoc hown'
          have he' : exL s.data.toList 0 = (xs ++ [m]) ++ (pend s.data.toList (k + 1) (if c = 46 then m + 1 else m) ++ exL (s.data.toList.drop (k + 1)) (if c = 46 then m + 1 else m)) := by
            rw [he.out, HS.out, hpend.out, List.append_assoc]
          have HE := Lib.hid he'
          clear hown hown' hgrow hbw hnn he' he
          go_wp2_with fail
          go_roundw
          case rel =>
            have he' := HE.out
            have hc := HC.out
            first | rw [if_pos hc] at he' | rw [if_neg hc] at he'
            exact ⟨k + 1, _, xs ++ [m], by omega, by omega, by omega, by go_num, rfl, by simp; omega, hown1, hbw', he'⟩
          case measure => simp [intOf]; omega
      · have hpend : Hid (pend s.data.toList k m = []) := by show _ = _; unfold pend; rw [if_neg hP]
        have he' : exL s.data.toList 0 = xs ++ (pend s.data.toList (k + 1) (if c = 46 then m + 1 else m) ++ exL (s.data.toList.drop (k + 1)) (if c = 46 then m + 1 else m)) := by
          rw [he.out, HS.out, hpend.out, List.nil_append]
        have HE := Lib.hid he'
        clear he' he
        by_cases hc : c = 46
        all_goals
          have h4 := H46.out
          simp only [hc, decide_true, decide_false] at h4
          have HC := Lib.hid hc
          clear hc
          by_cases h1 : (0 : Int) < k
          · by_cases h2 : (k : Int) + 2 < s.size
            · have h3 : ((s.extract (k - 1) (k + 3)).toList == [40, 46, 46, 41]) = false := by
                rw [← expB_extract s k (by omega)]
                exact Bool.eq_false_iff.2 fun e => hP ⟨by omega, e⟩
              clear hP
              go_wp2_with fail
              go_roundw
              case rel =>
                have he' := HE.out
                have hc := HC.out
                first | rw [if_pos hc] at he' | rw [if_neg hc] at he'
                exact ⟨k + 1, _, xs, by omega, by omega, by omega, by go_num, rfl, by omega, hown, hbw, he'⟩
              case measure => simp [intOf]; omega
            · clear hP
              go_wp2_with fail
              go_roundw
              case rel =>
                have he' := HE.out
                have hc := HC.out
                first | rw [if_pos hc] at he' | rw [if_neg hc] at he'
                exact ⟨k + 1, _, xs, by omega, by omega, by omega, by go_num, rfl, by omega, hown, hbw, he'⟩
              case measure => simp [intOf]; omega
          · clear hP
            go_wp2_with fail
            go_roundw
            case rel =>
              have he' := HE.out
              have hc := HC.out
              first | rw [if_pos hc] at he' | rw [if_neg hc] at he'
              exact ⟨k + 1, _, xs, by omega, by omega, by omega, by go_num, rfl, by omega, hown, hbw, he'⟩
            case measure => simp [intOf]; omega
    · obtain rfl : k = s.size := by omega
      have hend : exL s.data.toList 0 = xs := by
        have h1 : s.data.toList.drop s.size = [] := List.drop_of_length_le (by rw [Lib.size_eq]; exact Nat.le_refl _)
        have h2 : pend s.data.toList s.size m = [] := by
          unfold pend
          rw [if_neg]
          rintro ⟨h3, h4⟩
          have := expB_drop h4
          rw [← Lib.size_eq] at this
          omega
        have := he.out
        rw [h1, h2] at this
        simpa [exL] using this
      have HE := Lib.hid hend
      clear hend he
      go_wp2_with fail
      go_ret
      exact ⟨_, by rw [HE.out]; exact hown, hbw, rfl⟩
end Go.Proofs.Ytkoebmdocenlkaa
