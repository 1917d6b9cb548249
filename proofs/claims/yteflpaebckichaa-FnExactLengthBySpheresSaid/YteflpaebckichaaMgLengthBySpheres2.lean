/- Texts that the claim needs, part 3. -/
import Derived.Test.YteflpaebckichaaMgLengthBySpheres1
import Derived.Lib.SmallJoins
/-! ImplExp -/
namespace Go.Proofs.Yteflpaebckichaa
open Go.RowKit

/-- A call that hands back a slice of integers of its own, and true. -/
def IntsOk (xs : List Int) (w : World) (e : Ending) (w' : World) : Prop :=
  ∃ v, OwnI w.heap.size w' v xs ∧ Below w.heap.size w w' ∧ e = .returned (.tuple #[v, .bool true])

theorem expB_from (s : ByteArray) (k : Nat) : ((s.extract k s.size).data.toList.take (ByteArray.mk #[40, 46, 46, 41]).size == (ByteArray.mk #[40, 46, 46, 41]).data.toList) = expB (s.data.toList.drop k) := by
  unfold expB
  rw [ext_end]
  rfl

set_option maxRecDepth 100000 in
set_option maxHeartbeats 2000000 in
theorem exposedIn_any (s : ByteArray) (w : World) (hs : s.size ≤ 1000) :
    Calls Try.prog 77 #[.string s] w (GivesInts (exL s.data.toList 0) w) := by
  obtain ⟨i0, hi, hz0, hz1, hz2⟩ := info_parts info_int
  go_enter Try.func77, Try.ntmps77
  go_wp2_with fail
  go_loopw [3, 4, 8] (fun v n i wr => ∃ (k : Nat) (m : Int) (xs : List Int), k ≤ s.size ∧ 0 ≤ m ∧ m ≤ k ∧ i = .int .i64 k ∧ n = .int .i64 m ∧ xs.length ≤ k ∧ OwnI w.heap.size wr v xs ∧ Below w.heap.size w wr ∧ Hid (exL s.data.toList 0 = xs ++ exL (s.data.toList.drop k) m)) (fun _ _ i _ => s.size - (intOf i).toNat)
  case atStart => exact ⟨0, 0, [], Nat.zero_le _, by omega, by omega, rfl, rfl, Nat.le_refl _, OwnI.nil _ _, Below.refl _ _, rfl⟩
  case round =>
    obtain ⟨k, m, xs, hk, hm0, hm1, rfl, rfl, hxl, hown, hbw, he⟩ := hrel
    by_cases hlt : k < s.size
    · obtain ⟨c, r, hd, hb, hr⟩ := drop_of_byteAt hlt
      have hx : ((s[k]'hlt).toNat : Int) = (c.toNat : Int) := by rw [← hb]; exact (byteAt_eq s k hlt).symm
      have h46 : (((s[k]'hlt).toNat : Int) == 46) = decide (c = 46) := by
        rw [hx, Bool.eq_iff_iff]
        simp only [beq_iff_eq, decide_eq_true_eq]
        exact ⟨fun e => u8_eq (n := 46) (by omega) e, fun e => by rw [e]; rfl⟩
      have hstep : exL (s.data.toList.drop k) m = (if expB (s.data.toList.drop k) = true then [m] else []) ++ exL (s.data.toList.drop (k + 1)) (if c = 46 then m + 1 else m) := by
        rw [hr, hd, exL]
      have H46 := Lib.hid h46
      have HS := Lib.hid hstep
      have hpc := hasPrefixS_any (s.extract k s.size) (ByteArray.mk #[40, 46, 46, 41])
      rw [expB_from] at hpc
      have hsz : (s.extract k s.size).size ≤ 9223372036854775806 := by simp; omega
      clear hd hb hr hx h46 hstep
      cases hE : expB (s.data.toList.drop k) with
      | true =>
        rw [hE] at hpc
        have HE1 := Lib.hid hE
        clear hE
        by_cases hc : c = 46
        all_goals
          have h4 := H46.out
          simp only [hc, decide_true, decide_false] at h4
          have HC := Lib.hid hc
          have H4 := Lib.hid h4
          clear hc h4
          go_wp2_with fail
          refine (hpc _ hsz (by decide)).mono ?_; rintro e wx ⟨rfl, rfl⟩
          go_wp2_with (at_builtin; refine wpList_append_own _ rfl _ _ 32 rfl w.heap.size 3 i0 (.int .i64 0) 1 8 Try.underlying32 hi hz0 hz1 hz2 rfl (by decide) _ _ _ rfl (hown.alloc _) ⟨wr.heap.size, 0, none⟩ 1 1 [.int .i64 m] rfl rfl (new1 _ _ _) (one1 _) (by unfold maxLen; omega) (by omega) (size_al hbw _) ?_; intro v' w1 hown' hgrow hnn)
          have hbw' := below_app hbw hown (Nat.le_refl _) hgrow
          have hown1 := OwnI.snoc hown'
          have he' : exL s.data.toList 0 = (xs ++ [m]) ++ exL (s.data.toList.drop (k + 1)) (if c = 46 then m + 1 else m) := by
            rw [he.out, HS.out, if_pos HE1.out, List.append_assoc]
          have HE := Lib.hid he'
          have g := H4.out
          have gz : ((⟨#[46]⟩ : ByteArray)[0]'(by decide)).toNat = 46 := rfl
          clear hown hown' hgrow hbw hnn he' he
          go_wp2_with fail
          go_quiet (fail)
          go_wp2_with fail
          clear g gz
          go_roundw
          case rel =>
            have he' := HE.out
            have hc := HC.out
            first | rw [if_pos hc] at he' | rw [if_neg hc] at he'
            exact ⟨k + 1, _, xs ++ [m], by omega, by omega, by omega, by go_num, rfl, by simp; omega, hown1.keep (drewB (Below.refl _ _) _), drewB hbw' _, he'⟩
          case measure => simp [intOf]; omega
      | false =>
        rw [hE] at hpc
        have he' : exL s.data.toList 0 = xs ++ exL (s.data.toList.drop (k + 1)) (if c = 46 then m + 1 else m) := by
          rw [he.out, HS.out, if_neg (by rw [hE]; decide), List.nil_append]
        have HE := Lib.hid he'
        clear hE he' he
        by_cases hc : c = 46
        all_goals
          have h4 := H46.out
          simp only [hc, decide_true, decide_false] at h4
          have HC := Lib.hid hc
          have H4 := Lib.hid h4
          clear hc h4
          go_wp2_with fail
          refine (hpc _ hsz (by decide)).mono ?_; rintro e wx ⟨rfl, rfl⟩
          have g := H4.out
          have gz : ((⟨#[46]⟩ : ByteArray)[0]'(by decide)).toNat = 46 := rfl
          go_wp2_with fail
          go_quiet (fail)
          go_wp2_with fail
          clear g gz
          go_roundw
          case rel =>
            have he' := HE.out
            have hc := HC.out
            first | rw [if_pos hc] at he' | rw [if_neg hc] at he'
            exact ⟨k + 1, _, xs, by omega, by omega, by omega, by go_num, rfl, by omega, hown.keep (drewB (Below.refl _ _) _), drewB hbw _, he'⟩
          case measure => simp [intOf]; omega
    · obtain rfl : k = s.size := by omega
      have hend : exL s.data.toList 0 = xs := by
        have h1 : s.data.toList.drop s.size = [] := List.drop_of_length_le (by rw [Lib.size_eq]; exact Nat.le_refl _)
        have := he.out
        rw [h1] at this
        simpa [exL] using this
      have HE := Lib.hid hend
      clear hend he
      go_wp2_with fail
      go_ret
      exact ⟨_, by rw [HE.out]; exact hown, hbw, rfl⟩

end Go.Proofs.Yteflpaebckichaa

/-! SpecExp -/
namespace Go.Proofs.Yteflpaebckichaa
open Go.RowKit

set_option maxRecDepth 100000 in
set_option maxHeartbeats 2000000 in
theorem trExposed_any (s : ByteArray) (w : World) (hs : s.size ≤ 1000) :
    Calls Try.prog 55 #[.string s] w (GivesInts (exL s.data.toList 0) w) := by
  obtain ⟨i0, hi, hz0, hz1, hz2⟩ := info_parts info_int
  go_enter Try.func55, Try.ntmps55
  go_wp2_with fail
  go_loopw [3, 4, 5] (fun v n i wr => ∃ (k : Nat) (m : Int) (xs : List Int), k ≤ s.size ∧ 0 ≤ m ∧ m ≤ k ∧ i = .int .i64 k ∧ n = .int .i64 m ∧ xs.length ≤ k ∧ OwnI w.heap.size wr v xs ∧ Below w.heap.size w wr ∧ Hid (exL s.data.toList 0 = xs ++ (pend s.data.toList k m ++ exL (s.data.toList.drop k) m))) (fun _ _ i _ => s.size - (intOf i).toNat)
  case atStart => exact ⟨0, 0, [], Nat.zero_le _, by omega, by omega, rfl, rfl, Nat.le_refl _, OwnI.nil _ _, Below.refl _ _, by show _ = _; rw [pend_zero]; rfl⟩
  case round =>
    obtain ⟨k, m, xs, hk, hm0, hm1, rfl, rfl, hxl, hown, hbw, he⟩ := hrel
    by_cases hlt : k < s.size
    · obtain ⟨c, r, hd, hb, hr⟩ := drop_of_byteAt hlt
      have hstep := exL_step (n := m) hd
      have hx : ((s[k]'hlt).toNat : Int) = (c.toNat : Int) := by rw [← hb]; exact (byteAt_eq s k hlt).symm
      have h46 : (((s[k]'hlt).toNat : Int) == 46) = decide (c = 46) := by
        rw [hx, Bool.eq_iff_iff]
        simp only [beq_iff_eq, decide_eq_true_eq]
        exact ⟨fun e => u8_eq (n := 46) (by omega) e, fun e => by rw [e]; rfl⟩
      have H46 := Lib.hid h46
      have HS := Lib.hid hstep
      clear hd hb hr hx h46 hstep
      by_cases hP : 0 < k ∧ expB (s.data.toList.drop (k - 1)) = true
      · have hpend : Hid (pend s.data.toList k m = [m]) := by show _ = _; unfold pend; rw [if_pos hP]
        obtain ⟨hk0, hE⟩ := hP
        have h1 : (0 : Int) < k := by omega
        have h2 : (k : Int) + 2 < s.size := by have := expB_drop hE; rw [← Lib.size_eq] at this; omega
        have h3 : ((s.extract (k - 1) (k + 3)).toList == [40, 46, 46, 41]) = true := by rw [← expB_extract s k hk0]; exact hE
        clear hE
        by_cases hc : c = 46
        all_goals
          have h4 := H46.out
          simp only [hc, decide_true, decide_false] at h4
          have HC := Lib.hid hc
          clear hc
          go_wp2_with (at_builtin; refine wpList_append_own _ rfl _ _ 32 rfl w.heap.size 3 i0 (.int .i64 0) 1 8 Try.underlying32 hi hz0 hz1 hz2 rfl (by decide) _ _ _ rfl (hown.alloc _) ⟨wr.heap.size, 0, none⟩ 1 1 [.int .i64 m] rfl rfl (new1 _ _ _) (one1 _) (by unfold maxLen; omega) (by omega) (size_al hbw _) ?_; intro v' w1 hown' hgrow hnn)
          have hbw' := below_app hbw hown (Nat.le_refl _) hgrow
          have hown1 := OwnI.snoc hown'
          have he' : exL s.data.toList 0 = (xs ++ [m]) ++ (pend s.data.toList (k + 1) (if c = 46 then m + 1 else m) ++ exL (s.data.toList.drop (k + 1)) (if c = 46 then m + 1 else m)) := by
            rw [he.out, HS.out, hpend.out, List.append_assoc]
          have HE := Lib.hid he'
          clear hown hown' hgrow hbw hnn he' he
          go_wp2_with fail
          go_roundw
          case rel =>
            have he' := HE.out
            have hc := HC.out
            first | rw [if_pos hc] at he' | rw [if_neg hc] at he'
            exact ⟨k + 1, _, xs ++ [m], by omega, by omega, by omega, by go_num, rfl, by simp; omega, hown1, hbw', he'⟩
          case measure => simp [intOf]; omega
      · have hpend : Hid (pend s.data.toList k m = []) := by show _ = _; unfold pend; rw [if_neg hP]
        have he' : exL s.data.toList 0 = xs ++ (pend s.data.toList (k + 1) (if c = 46 then m + 1 else m) ++ exL (s.data.toList.drop (k + 1)) (if c = 46 then m + 1 else m)) := by
          rw [he.out, HS.out, hpend.out, List.nil_append]
        have HE := Lib.hid he'
        clear he' he
        by_cases hc : c = 46
        all_goals
          have h4 := H46.out
          simp only [hc, decide_true, decide_false] at h4
          have HC := Lib.hid hc
          clear hc
          by_cases h1 : (0 : Int) < k
          · by_cases h2 : (k : Int) + 2 < s.size
            · have h3 : ((s.extract (k - 1) (k + 3)).toList == [40, 46, 46, 41]) = false := by
                rw [← expB_extract s k (by omega)]
                exact Bool.eq_false_iff.2 fun e => hP ⟨by omega, e⟩
              clear hP
              go_wp2_with fail
              go_roundw
              case rel =>
                have he' := HE.out
                have hc := HC.out
                first | rw [if_pos hc] at he' | rw [if_neg hc] at he'
                exact ⟨k + 1, _, xs, by omega, by omega, by omega, by go_num, rfl, by omega, hown, hbw, he'⟩
              case measure => simp [intOf]; omega
            · clear hP
              go_wp2_with fail
              go_roundw
              case rel =>
                have he' := HE.out
                have hc := HC.out
                first | rw [if_pos hc] at he' | rw [if_neg hc] at he'
                exact ⟨k + 1, _, xs, by omega, by omega, by omega, by go_num, rfl, by omega, hown, hbw, he'⟩
              case measure => simp [intOf]; omega
          · clear hP
            go_wp2_with fail
            go_roundw
            case rel =>
              have he' := HE.out
              have hc := HC.out
              first | rw [if_pos hc] at he' | rw [if_neg hc] at he'
              exact ⟨k + 1, _, xs, by omega, by omega, by omega, by go_num, rfl, by omega, hown, hbw, he'⟩
            case measure => simp [intOf]; omega
    · obtain rfl : k = s.size := by omega
      have hend : exL s.data.toList 0 = xs := by
        have h1 : s.data.toList.drop s.size = [] := List.drop_of_length_le (by rw [Lib.size_eq]; exact Nat.le_refl _)
        have h2 : pend s.data.toList s.size m = [] := by
          unfold pend
          rw [if_neg]
          rintro ⟨h3, h4⟩
          have := expB_drop h4
          rw [← Lib.size_eq] at this
          omega
        have := he.out
        rw [h1, h2] at this
        simpa [exL] using this
      have HE := Lib.hid hend
      clear hend he
      go_wp2_with fail
      go_ret
      exact ⟨_, by rw [HE.out]; exact hown, hbw, rfl⟩
end Go.Proofs.Yteflpaebckichaa

/-! Has -/
namespace Go.Proofs.Yteflpaebckichaa
open Go.RowKit

theorem CellsI.weak {b1 b2 : Nat} {w : World} {v : Value} {xs : List Int} (h : CellsI b1 w v xs) (hb : b2 ≤ b1) : CellsI b2 w v xs := by
  rcases h with h | ⟨g, cap, h1, h2, h3⟩
  · exact .inl h
  · exact .inr ⟨g, cap, h1, Nat.le_trans hb h2, h3⟩

set_option maxHeartbeats 1000000 in
theorem l1Has_any (b1 : Nat) (v : Value) (xs : List Int) (n : Int) (w : World) (h : CellsI b1 w v xs) :
    Calls Try.prog 56 #[v, .int .i64 n] w (Quietly (.bool (xs.contains n)) w) := by
  have hl := h.len
  rcases h with ⟨rfl, rfl⟩ | ⟨g, cap, rfl, hb1, hg1, hc1, hm1, hx1, _⟩
  · go_enter Try.func56, Try.ntmps56
    go_wp2_with fail
    go_loopw [9] (fun i wr => i = .int .i64 0 ∧ wr = w) (fun _ _ => 0)
    case atStart => exact ⟨rfl, rfl⟩
    case round =>
      obtain ⟨rfl, rfl⟩ := hrel
      go_wp2_with fail
      go_ret
      exact ⟨rfl, 0, rfl⟩
  · have HX1 := Lib.hid hx1
    clear hx1
    go_enter Try.func56, Try.ntmps56
    go_wp2_with fail
    go_loopw [9] (fun i wr => ∃ k d : Nat, k ≤ xs.length ∧ i = .int .i64 k ∧ wr = w.drewN d ∧ Hid (xs.contains n = (xs.drop k).contains n)) (fun i _ => xs.length - (intOf i).toNat)
    case atStart => exact ⟨0, 0, Nat.zero_le _, rfl, rfl, rfl⟩
    case round =>
      obtain ⟨k, d, hk, rfl, rfl, he⟩ := hrel
      by_cases hlt : k < xs.length
      · have hlt' : (k : Int) < (xs.length : Int) := by omega
        have c1 := HX1.out k hlt
        obtain ⟨x, hx⟩ : ∃ x, x = xs.getD k 0 := ⟨_, rfl⟩
        have hd : xs.drop k = x :: xs.drop (k + 1) := by rw [List.drop_eq_getElem_cons hlt, hx]; simp [hlt]
        rw [← hx] at c1
        have he' := he.out
        rw [hd, List.contains_cons] at he'
        clear hx hd he
        cases hxn : (x == n) with
        | true =>
          have hn : (n == x) = true := by simp at hxn; simp [hxn]
          rw [hn, Bool.true_or] at he'
          have HE := Lib.hid he'
          clear he' hn
          go_wp2_with fail
          go_ret
          exact ⟨by rw [HE.out]; rfl, _, rfl⟩
        | false =>
          have hn : (n == x) = false := by simp at hxn; simp; exact fun e => hxn e.symm
          rw [hn, Bool.false_or] at he'
          have HE := Lib.hid he'
          clear he' hn
          go_wp2_with fail
          go_roundw
          case rel => exact ⟨k + 1, _, by omega, by go_num, rfl, HE⟩
          case measure => simp [intOf]; omega
      · obtain rfl : k = xs.length := by omega
        have he' := he.out
        rw [List.drop_of_length_le (Nat.le_refl _)] at he'
        have HE := Lib.hid he'
        clear he he'
        go_wp2_with fail
        go_ret
        exact ⟨by rw [HE.out]; rfl, _, rfl⟩
end Go.Proofs.Yteflpaebckichaa

/-! Both -/
namespace Go.Proofs.Yteflpaebckichaa
open Go.RowKit

/-- The left leaves with which the trees of both texts have exposed carets. -/
def bothL (a b : ByteArray) : List Int := (exL a.data.toList 0).filter fun n => (exL b.data.toList 0).contains n
theorem bothL_str (p : Pr) : bothL p.1.str p.2.str = both p := by
  unfold bothL both
  rw [Tr.str_list, Tr.str_list, exps_text, exps_text]

/-- Where a number is in a list, from k on. -/
def idxI : List Int → Nat → Int → Int
  | [], _, _ => -1
  | x :: xs, k, n => if n = x then k else idxI xs (k + 1) n
theorem idxI_has (xs : List Int) : ∀ (k : Nat) (n : Int), decide (0 ≤ idxI xs k n) = xs.contains n := by
  induction xs with
  | nil => intro k n; rfl
  | cons x xs ih =>
    intro k n
    rw [idxI, List.contains_cons]
    by_cases h : n = x
    · subst h; simp
    · have : (n == x) = false := by simpa using h
      rw [if_neg h, ih, this, Bool.false_or]
theorem idxI_le (xs : List Int) : ∀ (k : Nat) (n : Int), -1 ≤ idxI xs k n ∧ idxI xs k n ≤ k + xs.length := by
  induction xs with
  | nil => intro k n; simp [idxI]
  | cons x xs ih =>
    intro k n
    have := ih (k + 1) n
    rw [idxI]
    simp only [List.length_cons]
    split <;> omega

set_option maxHeartbeats 1000000 in
theorem index_any (b1 : Nat) (v : Value) (xs : List Int) (n : Int) (w : World) (h : CellsI b1 w v xs) :
    Calls Try.prog 89 #[v, .int .i64 n] w (Quietly (.int .i64 (idxI xs 0 n)) w) := by
  have hl := h.len
  rcases h with ⟨rfl, rfl⟩ | ⟨g, cap, rfl, hb1, hg1, hc1, hm1, hx1, _⟩
  · go_enter Try.func89, Try.ntmps89
    go_wp2_with fail
    go_loopw [8] (fun i wr => i = .int .i64 0 ∧ wr = w) (fun _ _ => 0)
    case atStart => exact ⟨rfl, rfl⟩
    case round =>
      obtain ⟨rfl, rfl⟩ := hrel
      go_wp2_with fail
      go_ret
      exact ⟨rfl, 0, rfl⟩
  · have HX1 := Lib.hid hx1
    clear hx1
    go_enter Try.func89, Try.ntmps89
    go_wp2_with fail
    go_loopw [8] (fun i wr => ∃ k d : Nat, k ≤ xs.length ∧ i = .int .i64 k ∧ wr = w.drewN d ∧ Hid (idxI xs 0 n = idxI (xs.drop k) k n)) (fun i _ => xs.length - (intOf i).toNat)
    case atStart => exact ⟨0, 0, Nat.zero_le _, rfl, rfl, rfl⟩
    case round =>
      obtain ⟨k, d, hk, rfl, rfl, he⟩ := hrel
      by_cases hlt : k < xs.length
      · have hlt' : (k : Int) < (xs.length : Int) := by omega
        have c1 := HX1.out k hlt
        obtain ⟨x, hx⟩ : ∃ x, x = xs.getD k 0 := ⟨_, rfl⟩
        have hd : xs.drop k = x :: xs.drop (k + 1) := by rw [List.drop_eq_getElem_cons hlt, hx]; simp [hlt]
        rw [← hx] at c1
        have he' := he.out
        rw [hd, idxI] at he'
        clear hx hd he
        by_cases hxn : n = x
        · rw [if_pos hxn] at he'
          have hn : (n == x) = true := by simpa using hxn
          have HE := Lib.hid he'
          clear he' hxn
          go_wp2_with fail
          go_ret
          exact ⟨ret_int (by rw [HE.out]), _, rfl⟩
        · rw [if_neg hxn] at he'
          have hn : (n == x) = false := by simpa using hxn
          have HE := Lib.hid he'
          clear he' hxn
          go_wp2_with fail
          go_roundw
          case rel => exact ⟨k + 1, _, by omega, by go_num, rfl, HE⟩
          case measure => simp [intOf]; omega
      · obtain rfl : k = xs.length := by omega
        have he' := he.out
        rw [List.drop_of_length_le (Nat.le_refl _)] at he'
        have HE := Lib.hid he'
        clear he he'
        go_wp2_with fail
        go_ret
        exact ⟨by rw [HE.out]; rfl, _, rfl⟩

theorem contains_any (b1 : Nat) (v : Value) (xs : List Int) (n : Int) (w : World) (h : CellsI b1 w v xs) :
    Calls Try.prog 78 #[v, .int .i64 n] w (Quietly (.bool (xs.contains n)) w) := by
  have hi := fun w h => index_any b1 v xs n w h
  have HI : Hid (decide (0 ≤ idxI xs 0 n) = xs.contains n) := idxI_has xs 0 n
  have H := Lib.hid h
  clear h
  generalize idxI xs 0 n = z at *
  go_enter Try.func78, Try.ntmps78
  go_wp2_with fail
  refine (hi _ H.out).mono ?_; rintro e w3 ⟨rfl, d, rfl⟩
  go_wp2_with fail
  go_ret
  exact ⟨ret_bool HI.out, _, rfl⟩

set_option maxRecDepth 100000 in
set_option maxHeartbeats 2000000 in
theorem prBoth_any (a b : ByteArray) (w : World) (ha : a.size ≤ 1000) (hb : b.size ≤ 1000) :
    Calls Try.prog 35 #[.agg #[.string a, .string b]] w (GivesInts (bothL a b) w) := by
  obtain ⟨i0, hi, hz0, hz1, hz2⟩ := info_parts info_int
  have hXl : (exL a.data.toList 0).length ≤ 1000 := by have := exL_length a.data.toList 0; rw [← Lib.size_eq] at this; omega
  have hA := fun w => trExposed_any a w ha
  have hB := fun w => trExposed_any b w hb
  obtain ⟨X, hX⟩ : ∃ X, X = exL a.data.toList 0 := ⟨_, rfl⟩
  obtain ⟨Y, hY⟩ : ∃ Y, Y = exL b.data.toList 0 := ⟨_, rfl⟩
  rw [← hX] at hA hXl
  rw [← hY] at hB
  rw [show bothL a b = X.filter fun n => Y.contains n by rw [hX, hY]; rfl]
  clear hX hY
  go_enter Try.func35, Try.ntmps35
  go_wp2_with fail
  have hb0 : Below w.heap.size w (w.alloc (.cells #[.string a, .string b] 27 (0, 0))) := nxAlloc (Below.refl _ _) _
  have hc := two_cells (heap_alloc_at w (.cells #[.string a, .string b] 27 (0, 0)))
  have hs : w.heap.size < (w.alloc (.cells #[.string a, .string b] 27 (0, 0))).heap.size := by simp
  generalize w.alloc (.cells #[.string a, .string b] 27 (0, 0)) = w0 at *
  refine (hB _).mono ?_; rintro e w1 ⟨v1, own1, hb1, rfl⟩
  have hc1 := keep_two hb1 hs hc
  have hs1 : w.heap.size < w1.heap.size := Nat.lt_of_lt_of_le hs hb1.size
  have hb01 := nx hb0 hb1
  obtain ⟨k1, k2⟩ := hc1
  go_wp2_with fail
  refine (hA _).mono ?_; rintro e w2 ⟨v2, own2, hb2, rfl⟩
  have own1' := own1.keep hb2
  have hbase : w.heap.size ≤ w0.heap.size := Nat.le_of_lt hs
  have hbase1 : w.heap.size ≤ w1.heap.size := Nat.le_of_lt hs1
  have hb02 := nx hb01 hb2
  have hcx := own2.cells
  clear hc k1 k2 hs hs1 own1 hb0 hb1 hb01
  have hp1 : Hid (OwnI w1.heap.size w2 v2 X) := own2
  have hp2 : Hid (OwnI w0.heap.size w2 v1 Y) := own1'
  clear own2 own1'
  rcases hcx with ⟨rfl, rfl⟩ | ⟨g, cap, rfl, hg0, hg1, hc1, hm1, hx1, _⟩
  · go_wp2_with fail
    go_loopw [3, 14] (fun v i wr => v = .slice none 0 0 ∧ i = .int .i64 0 ∧ wr = w2) (fun _ _ _ => 0)
    case atStart => exact ⟨rfl, rfl, rfl⟩
    case round =>
      obtain ⟨rfl, rfl, rfl⟩ := hrel
      go_wp2_with fail
      go_ret
      exact ⟨_, OwnI.nil _ _, hb02, rfl⟩
  · have HX1 := Lib.hid hx1
    clear hx1
    go_wp2_with fail
    go_loopw [3, 14] (fun v i wr => ∃ (k : Nat) (zs : List Int), k ≤ X.length ∧ i = .int .i64 k ∧ zs.length ≤ k ∧ OwnI w2.heap.size wr v zs ∧ Below w2.heap.size w2 wr ∧ Hid (X.filter (fun n => Y.contains n) = zs ++ (X.drop k).filter fun n => Y.contains n)) (fun _ i _ => X.length - (intOf i).toNat)
    case atStart => exact ⟨0, [], Nat.zero_le _, rfl, Nat.le_refl _, OwnI.nil _ _, Below.refl _ _, by show _ = _; simp⟩
    case round =>
      obtain ⟨k, zs, hk, rfl, hzl, hown, hbw, he⟩ := hrel
      by_cases hlt : k < X.length
      · have c1 := (hbw.cell (p := ⟨g, k, none⟩) hg1).trans (HX1.out k hlt)
        have hcy := (OwnI.keep hp2.out hbw).cells
        obtain ⟨x, hx⟩ : ∃ x, x = X.getD k 0 := ⟨_, rfl⟩
        have hd : X.drop k = x :: X.drop (k + 1) := by rw [List.drop_eq_getElem_cons hlt, hx]; simp [hlt]
        rw [← hx] at c1
        have he' := he.out
        rw [hd, List.filter_cons] at he'
        have hhas := fun w h => l1Has_any w0.heap.size v1 Y x w h
        clear hx hd he
        have hlt' : (k : Int) < (X.length : Int) := by omega
        cases hxn : Y.contains x with
        | true =>
          rw [hxn] at hhas
          rw [hxn, if_pos rfl] at he'
          have HE := Lib.hid he'
          have HCY := Lib.hid hcy
          clear he' hxn hcy
          go_wp2_with fail
          refine (hhas _ HCY.out).mono ?_; rintro e w3 ⟨rfl, d, hw3⟩
          have hb3 : Below wr.heap.size wr w3 := by rw [hw3]; exact drewB (Below.refl _ _) _
          have hbw3 := nx hbw hb3
          have hown3 := hown.keep hb3
          clear hw3 hbw hown hb3
          go_wp2_with (at_builtin; refine wpList_append_own _ rfl _ _ 32 rfl w2.heap.size 3 i0 (.int .i64 0) 1 8 Try.underlying32 hi hz0 hz1 hz2 rfl (by decide) _ _ _ rfl (hown3.alloc _) ⟨w3.heap.size, 0, none⟩ 1 1 [.int .i64 x] rfl rfl (new1 _ _ _) (one1 _) (by unfold maxLen; omega) (by omega) (size_al hbw3 _) ?_; intro v' w4 hown' hgrow hnn)
          have hbw' := below_app hbw3 hown3 (Nat.le_refl _) hgrow
          have hown1 := OwnI.snoc hown'
          clear hown3 hown' hgrow hbw3 hnn
          go_wp2_with fail
          go_roundw
          case rel =>
            have he' := HE.out
            exact ⟨k + 1, zs ++ [x], by omega, by go_num, by simp; omega, hown1, hbw', by show _ = _; rw [he']; simp⟩
          case measure => simp [intOf]; omega
        | false =>
          rw [hxn] at hhas
          rw [hxn, if_neg (by decide)] at he'
          have HE := Lib.hid he'
          have HCY := Lib.hid hcy
          clear he' hxn hcy
          go_wp2_with fail
          refine (hhas _ HCY.out).mono ?_; rintro e w3 ⟨rfl, d, hw3⟩
          have hb3 : Below wr.heap.size wr w3 := by rw [hw3]; exact drewB (Below.refl _ _) _
          have hbw3 := nx hbw hb3
          have hown3 := hown.keep hb3
          clear hw3 hbw hown hb3
          go_wp2_with fail
          go_roundw
          case rel => exact ⟨k + 1, zs, by omega, by go_num, by omega, hown3, hbw3, HE⟩
          case measure => simp [intOf]; omega
      · obtain rfl : k = X.length := by omega
        have he' := he.out
        rw [List.drop_of_length_le (Nat.le_refl _), List.filter_nil, List.append_nil] at he'
        have HE := Lib.hid he'
        clear he he'
        go_wp2_with fail
        go_ret
        exact ⟨_, by rw [HE.out]; exact hown.mono hb02.size, nx hb02 hbw, rfl⟩

set_option maxRecDepth 100000 in
set_option maxHeartbeats 2000000 in
theorem sharedExposed_any (a b : ByteArray) (w : World) (ha : a.size ≤ 1000) (hb : b.size ≤ 1000) :
    Calls Try.prog 64 #[.agg #[.string a, .string b]] w (GivesInts (bothL a b) w) := by
  obtain ⟨i0, hi, hz0, hz1, hz2⟩ := info_parts info_int
  have hXl : (exL a.data.toList 0).length ≤ 1000 := by have := exL_length a.data.toList 0; rw [← Lib.size_eq] at this; omega
  have hA := fun w => exposedIn_any a w ha
  have hB := fun w => exposedIn_any b w hb
  obtain ⟨X, hX⟩ : ∃ X, X = exL a.data.toList 0 := ⟨_, rfl⟩
  obtain ⟨Y, hY⟩ : ∃ Y, Y = exL b.data.toList 0 := ⟨_, rfl⟩
  rw [← hX] at hA hXl
  rw [← hY] at hB
  rw [show bothL a b = X.filter fun n => Y.contains n by rw [hX, hY]; rfl]
  clear hX hY
  go_enter Try.func64, Try.ntmps64
  go_wp2_with fail
  have hb0 : Below w.heap.size w (w.alloc (.cells #[.string a, .string b] 27 (0, 0))) := nxAlloc (Below.refl _ _) _
  have hc := two_cells (heap_alloc_at w (.cells #[.string a, .string b] 27 (0, 0)))
  have hs : w.heap.size < (w.alloc (.cells #[.string a, .string b] 27 (0, 0))).heap.size := by simp
  generalize w.alloc (.cells #[.string a, .string b] 27 (0, 0)) = w0 at *
  refine (hB _).mono ?_; rintro e w1 ⟨v1, own1, hb1, rfl⟩
  have hc1 := keep_two hb1 hs hc
  have hs1 : w.heap.size < w1.heap.size := Nat.lt_of_lt_of_le hs hb1.size
  have hb01 := nx hb0 hb1
  obtain ⟨k1, k2⟩ := hc1
  go_wp2_with fail
  refine (hA _).mono ?_; rintro e w2 ⟨v2, own2, hb2, rfl⟩
  have own1' := own1.keep hb2
  have hbase : w.heap.size ≤ w0.heap.size := Nat.le_of_lt hs
  have hbase1 : w.heap.size ≤ w1.heap.size := Nat.le_of_lt hs1
  have hb02 := nx hb01 hb2
  have hcx := own2.cells
  clear hc k1 k2 hs hs1 own1 hb0 hb1 hb01
  have hp1 : Hid (OwnI w1.heap.size w2 v2 X) := own2
  have hp2 : Hid (OwnI w0.heap.size w2 v1 Y) := own1'
  clear own2 own1'
  rcases hcx with ⟨rfl, rfl⟩ | ⟨g, cap, rfl, hg0, hg1, hc1, hm1, hx1, _⟩
  · go_wp2_with fail
    go_loopw [3, 14] (fun v i wr => v = .slice none 0 0 ∧ i = .int .i64 0 ∧ wr = w2) (fun _ _ _ => 0)
    case atStart => exact ⟨rfl, rfl, rfl⟩
    case round =>
      obtain ⟨rfl, rfl, rfl⟩ := hrel
      go_wp2_with fail
      go_ret
      exact ⟨_, OwnI.nil _ _, hb02, rfl⟩
  · have HX1 := Lib.hid hx1
    clear hx1
    go_wp2_with fail
    go_loopw [3, 14] (fun v i wr => ∃ (k : Nat) (zs : List Int), k ≤ X.length ∧ i = .int .i64 k ∧ zs.length ≤ k ∧ OwnI w2.heap.size wr v zs ∧ Below w2.heap.size w2 wr ∧ Hid (X.filter (fun n => Y.contains n) = zs ++ (X.drop k).filter fun n => Y.contains n)) (fun _ i _ => X.length - (intOf i).toNat)
    case atStart => exact ⟨0, [], Nat.zero_le _, rfl, Nat.le_refl _, OwnI.nil _ _, Below.refl _ _, by show _ = _; simp⟩
    case round =>
      obtain ⟨k, zs, hk, rfl, hzl, hown, hbw, he⟩ := hrel
      by_cases hlt : k < X.length
      · have c1 := (hbw.cell (p := ⟨g, k, none⟩) hg1).trans (HX1.out k hlt)
        have hcy := (OwnI.keep hp2.out hbw).cells
        obtain ⟨x, hx⟩ : ∃ x, x = X.getD k 0 := ⟨_, rfl⟩
        have hd : X.drop k = x :: X.drop (k + 1) := by rw [List.drop_eq_getElem_cons hlt, hx]; simp [hlt]
        rw [← hx] at c1
        have he' := he.out
        rw [hd, List.filter_cons] at he'
        have hhas := fun w h => contains_any w0.heap.size v1 Y x w h
        clear hx hd he
        have hlt' : (k : Int) < (X.length : Int) := by omega
        cases hxn : Y.contains x with
        | true =>
          rw [hxn] at hhas
          rw [hxn, if_pos rfl] at he'
          have HE := Lib.hid he'
          have HCY := Lib.hid hcy
          clear he' hxn hcy
          go_wp2_with fail
          refine (hhas _ HCY.out).mono ?_; rintro e w3 ⟨rfl, d, hw3⟩
          have hb3 : Below wr.heap.size wr w3 := by rw [hw3]; exact drewB (Below.refl _ _) _
          have hbw3 := nx hbw hb3
          have hown3 := hown.keep hb3
          clear hw3 hbw hown hb3
          go_wp2_with (at_builtin; refine wpList_append_own _ rfl _ _ 32 rfl w2.heap.size 3 i0 (.int .i64 0) 1 8 Try.underlying32 hi hz0 hz1 hz2 rfl (by decide) _ _ _ rfl (hown3.alloc _) ⟨w3.heap.size, 0, none⟩ 1 1 [.int .i64 x] rfl rfl (new1 _ _ _) (one1 _) (by unfold maxLen; omega) (by omega) (size_al hbw3 _) ?_; intro v' w4 hown' hgrow hnn)
          have hbw' := below_app hbw3 hown3 (Nat.le_refl _) hgrow
          have hown1 := OwnI.snoc hown'
          clear hown3 hown' hgrow hbw3 hnn
          go_wp2_with fail
          go_roundw
          case rel =>
            have he' := HE.out
            exact ⟨k + 1, zs ++ [x], by omega, by go_num, by simp; omega, hown1, hbw', by show _ = _; rw [he']; simp⟩
          case measure => simp [intOf]; omega
        | false =>
          rw [hxn] at hhas
          rw [hxn, if_neg (by decide)] at he'
          have HE := Lib.hid he'
          have HCY := Lib.hid hcy
          clear he' hxn hcy
          go_wp2_with fail
          refine (hhas _ HCY.out).mono ?_; rintro e w3 ⟨rfl, d, hw3⟩
          have hb3 : Below wr.heap.size wr w3 := by rw [hw3]; exact drewB (Below.refl _ _) _
          have hbw3 := nx hbw hb3
          have hown3 := hown.keep hb3
          clear hw3 hbw hown hb3
          go_wp2_with fail
          go_roundw
          case rel => exact ⟨k + 1, zs, by omega, by go_num, by omega, hown3, hbw3, HE⟩
          case measure => simp [intOf]; omega
      · obtain rfl : k = X.length := by omega
        have he' := he.out
        rw [List.drop_of_length_le (Nat.le_refl _), List.filter_nil, List.append_nil] at he'
        have HE := Lib.hid he'
        clear he he'
        go_wp2_with fail
        go_ret
        exact ⟨_, by rw [HE.out]; exact hown.mono hb02.size, nx hb02 hbw, rfl⟩
end Go.Proofs.Yteflpaebckichaa

/-! Drop -/
namespace Go.Proofs.Yteflpaebckichaa
open Go.RowKit

set_option maxRecDepth 100000 in
set_option maxHeartbeats 1000000 in
theorem trDrop_any (s : ByteArray) (n : Int) (q : Nat) (w : World) (hs : s.size ≤ 1000) (hn : 0 ≤ n) (hn' : n ≤ 9223372036854775807) (hp : posFrom s.data.toList 0 n = (q : Int) + 1) (hq : q + 4 ≤ s.size) :
    Calls Try.prog 36 #[.string s, .int .i64 n] w (Gives (.string (dropS s q)) w) := by
  have HP0 := Lib.hid hp
  clear hp
  go_enter Try.func36, Try.ntmps36
  go_wp2_with fail
  go_loopw [5, 6] (fun v i wr => ∃ (k : Nat) (c : Int), k ≤ s.size ∧ i = .int .i64 k ∧ v = .int .i64 c ∧ 0 ≤ c ∧ c ≤ n ∧ c ≤ k ∧ wr = w ∧ Hid (posFrom s.data.toList 0 n = posFrom (s.data.toList.drop k) k (n - c))) (fun _ i _ => s.size - (intOf i).toNat)
  case atStart => exact ⟨0, 0, Nat.zero_le _, rfl, rfl, by omega, by omega, by omega, rfl, by show _ = _; simp⟩
  case round =>
    obtain ⟨k, c, hk, rfl, rfl, hc1, hc2, hck, rfl, he⟩ := hrel
    by_cases hlt : k < s.size
    · cases h46 : (((s[k]'hlt).toNat : Int) == 46) with
      | true =>
        have h46n : Hid ((((s[k]'hlt).toNat : Int) != 46) = false) := by show (_ != _) = false; rw [bne, h46]; rfl
        have hp := posFrom_dot (off := k) (n := n - c) hlt h46
        have HP := Lib.hid hp
        clear hp h46
        by_cases hm0 : c = n
        · have g0 : (c == n) = true := by simp [hm0]
          have hkq : k = q + 1 := by
            have h1 := he.out
            rw [HP.out, if_pos (by omega), HP0.out] at h1
            omega
          have HM := Lib.hid hm0
          have HKQ := Lib.hid hkq
          have hk1 : (1 : Int) ≤ k := by omega
          have hk3 : (k : Int) + 3 ≤ s.size := by omega
          clear hm0 hkq
          have g := h46n.out
          go_wp2_with fail
          clear g g0
          go_quiet (fail)
          go_wp2_with fail
          go_ret
          exact ⟨ret_str (by unfold dropS; rw [HKQ.out, Nat.add_sub_cancel]), drewB (Below.refl _ _) _⟩
        · have g0 : (c == n) = false := by simp [hm0]
          have HM := Lib.hid hm0
          have hlt2 : c < n := by omega
          clear hm0
          have g := h46n.out
          go_wp2_with fail
          clear g g0
          go_roundw
          case rel => exact ⟨k + 1, c + 1, by omega, by go_num, rfl, by omega, by omega, by omega, trivial, by show _ = _; rw [he.out, HP.out, if_neg (by omega)]; congr 1; omega⟩
          case measure => simp [intOf]; omega
      | false =>
        have h46n : Hid ((((s[k]'hlt).toNat : Int) != 46) = true) := by show (_ != _) = true; rw [bne, h46]; rfl
        have hp := posFrom_other (off := k) (n := n - c) hlt h46
        have HP := Lib.hid hp
        clear hp h46
        have g := h46n.out
        go_wp2_with fail
        clear g
        go_roundw
        case rel => exact ⟨k + 1, c, by omega, by go_num, rfl, by omega, by omega, by omega, trivial, by show _ = _; rw [he.out, HP.out]⟩
        case measure => simp [intOf]; omega
    · obtain rfl : k = s.size := by omega
      exfalso
      have h1 := he.out
      rw [posFrom_end, HP0.out] at h1
      omega

def dropExpO (a : ByteArray) (n : Int) : Option ByteArray :=
  match treeOf a with
  | some _ => dropO a n
  | none => none

theorem has_exL (l : List UInt8) (n : Int) : (exL l 0).contains n = dropB l n := by
  rw [Bool.eq_iff_iff, List.contains_iff_mem, mem_exL]
  simp

set_option maxHeartbeats 1000000 in
theorem withoutExposed_any (s : ByteArray) (n : Int) (w : World) (hsm : s.size ≤ 1000) (lo : -9223372036854775808 ≤ n) (hi : n ≤ 9223372036854775807) :
    Calls Try.prog 65 #[.string s, .int .i64 n] w (Gives (ans2 (dropO s n)) w) := by
  have hl : ∀ w, Calls Try.prog 79 #[.string s, .int .i64 n] w (Quietly (.int .i64 (posFrom s.data.toList 0 n)) w) := by
    intro w
    by_cases hneg : n < 0
    · rw [posFrom_neg _ _ _ hneg]; exact leafPlace_neg s n w hsm hneg lo
    · exact leafPlace_any s n w (by omega) (by omega) hi
  have hr := posFrom_range s.data.toList 0 n
  have hrl : s.data.toList.length = s.size := (Lib.size_eq _).symm
  by_cases h1 : posFrom s.data.toList 0 n < 1
  · have hnone : dropO s n = none := by
      unfold dropO
      rw [if_neg]
      intro e
      obtain ⟨q, hp, _⟩ := dropB_true e
      omega
    rw [hnone]
    have hr' : -1 ≤ posFrom s.data.toList 0 n := by omega
    obtain ⟨p, hp⟩ : ∃ p, p = posFrom s.data.toList 0 n := ⟨_, rfl⟩
    rw [← hp] at hl h1 hr'
    clear hp hnone hr hrl
    go_enter Try.func65, Try.ntmps65
    go_wp2_with fail
    refine (hl _).mono ?_; rintro e w2 ⟨rfl, d, rfl⟩
    go_wp2_with fail
    go_ret2
    exact ⟨rfl, drewB (Below.refl _ _) _⟩
  · obtain ⟨q, hp⟩ : ∃ q : Nat, posFrom s.data.toList 0 n = (q : Int) + 1 := ⟨(posFrom s.data.toList 0 n).toNat - 1, by omega⟩
    have hql : (q : Int) ≤ s.size := by omega
    have hpc := hasPrefixS_any (s.extract q s.size) (ByteArray.mk #[40, 46, 46, 41])
    rw [expB_from] at hpc
    have hsz : (s.extract q s.size).size ≤ 9223372036854775806 := by simp; omega
    have hdB : dropB s.data.toList n = expB (s.data.toList.drop q) := by
      unfold dropB
      rw [hp]
      have t2 : ((q : Int) + 1).toNat - 1 = q := by omega
      rw [t2, decide_eq_true (by omega : 1 ≤ (q : Int) + 1), Bool.true_and]
    have hv : Hid ((posFrom s.data.toList 0 n).toNat - 1 = q) := by show _ = _; rw [hp]; omega
    rw [hp] at hl
    unfold dropO
    cases hE : expB (s.data.toList.drop q) with
    | false =>
      rw [hE] at hpc
      rw [hdB, hE]
      clear hp hr hrl h1 hdB hE
      go_enter Try.func65, Try.ntmps65
      go_wp2_with fail
      refine (hl _).mono ?_; rintro e w2 ⟨rfl, d, rfl⟩
      go_wp2_with fail
      refine (hpc _ hsz (by decide)).mono ?_; rintro e w3 ⟨rfl, rfl⟩
      go_wp2_with fail
      go_ret2
      exact ⟨rfl, drewB (Below.refl _ _) _⟩
    | true =>
      have hq4 := expB_drop hE
      rw [hrl] at hq4
      have hq4' : (q : Int) + 4 ≤ s.size := by omega
      rw [hE] at hpc
      rw [hdB, hE]
      clear hp hr hrl h1 hdB hE
      go_enter Try.func65, Try.ntmps65
      go_wp2_with fail
      refine (hl _).mono ?_; rintro e w2 ⟨rfl, d, hw2⟩
      have hb2 : Below w.heap.size w w2 := by rw [hw2]; exact drewB (Below.refl _ _) d
      clear hw2
      go_wp2_with fail
      refine (hpc _ hsz (by decide)).mono ?_; rintro e w3 ⟨rfl, rfl⟩
      go_wp2_with fail
      go_quiet (fail)
      go_wp2_with fail
      go_ret2
      exact ⟨by rw [hv.out]; rfl, drewB hb2 _⟩

end Go.Proofs.Yteflpaebckichaa

/-! Reduce -/
namespace Go.Proofs.Yteflpaebckichaa
open Go.RowKit

theorem trDrop_tr (t : Tr) (n : Int) (w : World) (ht : t.carets ≤ 300) (hn : n ∈ t.exps 0) :
    Calls Try.prog 36 #[.string t.str, .int .i64 n] w (Gives (.string (t.dropAt n).str) w) := by
  obtain ⟨h1, h2⟩ := drop_str t n hn
  obtain ⟨q, hp, hq, _, h0⟩ := dropB_true ((dropB_str t n).2 hn)
  have hr := exps_range t 0 n hn
  have hz := t.str_size
  have := trDrop_any t.str n q w (by omega) h0 (by simp [Tr.leaves] at hr; omega) hp hq
  rw [← h2, hp]
  have e : ((q : Int) + 1).toNat - 1 = q := by omega
  rw [e]
  exact this

theorem withoutExposed_tr (t : Tr) (n : Int) (w : World) (ht : t.carets ≤ 300) (hn : n ∈ t.exps 0) :
    Calls Try.prog 65 #[.string t.str, .int .i64 n] w (Gives (.tuple #[.string (t.dropAt n).str, .bool true]) w) := by
  obtain ⟨h1, h2⟩ := drop_str t n hn
  have hr := exps_range t 0 n hn
  have hz := t.str_size
  simp [Tr.leaves] at hr
  have := withoutExposed_any t.str n w (by omega) (by omega) (by omega)
  unfold dropO at this
  rw [if_pos ((dropB_str t n).2 hn), h2] at this
  exact this

/-- How long the first text of a block is. -/
def sizeAt (w : World) (b : Nat) : Nat := match w.heap[b]? with
  | some (.cells cs _ _) => match cs[0]? with
    | some (Value.string s) => s.size
    | _ => 0
  | _ => 0
theorem sizeAt_of {w : World} {b : Nat} {s u : ByteArray} {t : TypeId} (h : w.heap[b]? = some (.cells #[.string s, .string u] t (0, 0))) : sizeAt w b = s.size := by
  simp [sizeAt, h]

theorem pick_drop (cs : List Int) (j k : Nat) : pickI (cs.drop j) k = if j < cs.length then (cs.getD j 0 % k).toNat else 0 := by
  by_cases h : j < cs.length
  · rw [if_pos h, List.drop_eq_getElem_cons h]
    simp [pickI, h]
  · rw [if_neg h, List.drop_of_length_le (by omega)]
    rfl

theorem both_in (p : Pr) (h : p.1.carets ≤ 200) (i : Nat) (hi : i < (both p).length) : (both p).getD i 0 ∈ p.1.exps 0 ∧ (both p).getD i 0 ∈ p.2.exps 0 ∧ 0 ≤ (both p).getD i 0 ∧ (both p).getD i 0 ≤ 200 := by
  have hm : (both p).getD i 0 ∈ both p := by
    rw [List.getD_eq_getElem?_getD, List.getElem?_eq_getElem hi]
    exact List.getElem_mem _
  have h1 := mem_both.1 hm
  have hr := exps_range p.1 0 _ h1.1
  simp only [Tr.leaves] at hr
  exact ⟨h1.1, h1.2, by omega, by omega⟩

theorem redBy_pick {p : Pr} (cs : List Int) (i : Nat) (hl : 0 < (both p).length) (hi : i = pickI cs (both p).length) : redBy p cs = redBy (dropP p ((both p).getD i 0)) cs.tail := by
  cases h : both p with
  | nil => rw [h] at hl; simp at hl
  | cons n ns =>
    rw [redBy_step h, hi, h]
    rfl

set_option maxRecDepth 100000 in
set_option maxHeartbeats 2000000 in
theorem prReduce_any (p0 : Pr) (v : Value) (cs : List Int) (b1 : Nat) (w : World) (h1 : p0.1.carets ≤ 200) (h2 : p0.2.carets ≤ 200) (hv : CellsI b1 w v cs) (hcs : ∀ c ∈ cs, 0 ≤ c ∧ c ≤ 9223372036854775807) :
    Calls Try.prog 23 #[.agg #[.string p0.1.str, .string p0.2.str], v] w (Gives (.agg #[.string (redBy p0 cs).1.str, .string (redBy p0 cs).2.str]) w) := by
  have hB : ∀ (p : Pr) w, p.1.carets ≤ 200 → p.2.carets ≤ 200 → Calls Try.prog 35 #[.agg #[.string p.1.str, .string p.2.str]] w (GivesInts (both p) w) := by
    intro p w k1 k2
    have := prBoth_any p.1.str p.2.str w (by have := p.1.str_size; omega) (by have := p.2.str_size; omega)
    rwa [bothL_str] at this
  obtain ⟨oa, ccap, rfl, hcl, hcm, hcc⟩ := hv.form
  unfold maxLen at hcm
  clear hv
  go_enter Try.func23, Try.ntmps23
  go_wp2_with fail
  have hb0 : Below w.heap.size w ((w.alloc (.cells #[.string p0.1.str, .string p0.2.str] 27 (0, 0))).alloc (.cells #[.string ⟨#[]⟩, .string ⟨#[]⟩] 27 (0, 0))) := nxAlloc (nxAlloc (Below.refl _ _) _) _
  have hx1 := heap_keep (nxAlloc (Below.refl _ _) (.cells #[.string ⟨#[]⟩, .string ⟨#[]⟩] 27 (0, 0))) (heap_alloc_at w (.cells #[.string p0.1.str, .string p0.2.str] 27 (0, 0)))
  have hx2 := heap_alloc_at (w.alloc (.cells #[.string p0.1.str, .string p0.2.str] 27 (0, 0))) (.cells #[.string ⟨#[]⟩, .string ⟨#[]⟩] 27 (0, 0))
  generalize (w.alloc (.cells #[.string p0.1.str, .string p0.2.str] 27 (0, 0))).alloc (.cells #[.string ⟨#[]⟩, .string ⟨#[]⟩] 27 (0, 0)) = w0 at *
  have e2 : (w.alloc (.cells #[.string p0.1.str, .string p0.2.str] 27 (0, 0))).heap.size = w.heap.size + 1 := by simp
  rw [e2] at hx2
  clear e2
  have hs0 : w.heap.size + 1 < w0.heap.size := lt_of_block hx2
  refine (hB p0 _ h1 h2).mono ?_; rintro e w1 ⟨v6, own, hb1, rfl⟩
  have hb01 := nx hb0 hb1
  have hy1 := heap_keep hb1 hx1
  have hy2 := heap_keep hb1 hx2
  have own' : OwnI (w.heap.size + 2) w1 v6 (both p0) := own.mono hs0
  have hs1 : w.heap.size + 2 ≤ w1.heap.size := Nat.le_trans hs0 hb1.size
  clear own hx1 hx2 hb0 hb1 hs0
  go_wp2_with fail
  go_loopw [5, 6] (fun s b wr => ∃ (p : Pr) (j : Nat), s = .int .i64 j ∧ OwnI (w.heap.size + 2) wr b (both p) ∧ wr.heap[w.heap.size]? = some (.cells #[.string p.1.str, .string p.2.str] 27 (0, 0)) ∧ wr.heap[w.heap.size + 1]? = some (.cells #[.string ⟨#[]⟩, .string ⟨#[]⟩] 27 (0, 0)) ∧ Below w.heap.size w wr ∧ w.heap.size + 2 ≤ wr.heap.size ∧ j + p.1.carets ≤ 200 ∧ p.2.carets ≤ 200 ∧ Hid (redBy p0 cs = redBy p (cs.drop j))) (fun _ _ wr => sizeAt wr w.heap.size)
  case atStart => exact ⟨p0, 0, rfl, own', hy1, hy2, hb01, hs1, by omega, h2, rfl⟩
  case round =>
    obtain ⟨p, j, rfl, hown, hy1, hy2, hbw, hsz, hj, hp2, he⟩ := hrel
    have hf := hown.cells.form
    by_cases hl : (both p).length = 0
    · have hnil : both p = [] := List.length_eq_zero_iff.1 hl
      have he' := he.out
      rw [redBy_end hnil] at he'
      have HE := Lib.hid he'
      obtain ⟨ob, bcap, rfl, _, _, _⟩ := hf
      rw [hl]
      have hl2 := two_cells hy1
      obtain ⟨k1, k2⟩ := hl2
      obtain ⟨n1, n2⟩ := two_cells hy2
      obtain ⟨f1, f2⟩ := two_frozen hy2
      clear hl hnil he he' hown
      go_wp2_with fail
      obtain ⟨r1, r2⟩ := two_cells (set_two (.string p.1.str) (.string p.2.str) hy2)
      refine bodyPost_ret (v := .agg #[.string p.1.str, .string p.2.str]) (by simp [r1, r2, results, Try.results23, go_sem]) rfl ⟨by rw [HE.out], ?_⟩
      exact (hbw.setCell (by simp) _).setCell (by simp) _
    · -- a step
      have hlp : 0 < (both p).length := by omega
      have hlp' : (0 : Int) < ((both p).length : Int) := by omega
      have hpi := pickI_lt (cs.drop j) (both p).length hlp
      obtain ⟨i, hi⟩ : ∃ i, i = pickI (cs.drop j) (both p).length := ⟨_, rfl⟩
      rw [← hi] at hpi
      have hst := redBy_pick (cs.drop j) i hlp hi
      rw [pick_drop] at hi
      obtain ⟨m1, m2, _, _⟩ := both_in p (by omega) i hpi
      obtain ⟨ob, bcap, rfl, hbc, hbm, hbcell⟩ := hf
      unfold maxLen at hbm
      obtain ⟨g, rfl, hg0, hg1, c1⟩ := hbcell i hpi
      obtain ⟨x, hx⟩ : ∃ x, x = (both p).getD i 0 := ⟨_, rfl⟩
      rw [← hx] at hst m1 m2 c1
      have hstep := Lib.hid hst
      have T1 := fun w => trDrop_tr p.1 x w (by omega) m1
      have T2 := fun w => trDrop_tr p.2 x w (by omega) m2
      have hdc := dropP_carets (p := p) (n := x) (mem_both.2 ⟨m1, m2⟩)
      obtain ⟨hd1, hd2⟩ := hdc
      have HS1 := Lib.hid (sizeAt_of hy1)
      obtain ⟨k1, k2⟩ := two_cells hy1
      have hB1 : w.heap.size < wr.heap.size := by omega
      generalize hL : (both p).length = L at *
      have HL := Lib.hid hL
      clear hL hx hst m1 m2 hbcell hl hown
      by_cases hjc : j < cs.length
      · rw [if_pos hjc] at hi
        obtain ⟨g2, rfl, _, hg2, c2⟩ := hcc j hjc
        have c2' := (hbw.cell (p := ⟨g2, j, none⟩) hg2).trans c2
        have hcb := hcs (cs.getD j 0) (by rw [List.getD_eq_getElem?_getD, List.getElem?_eq_getElem hjc]; exact List.getElem_mem _)
        obtain ⟨hc0, hc9⟩ := hcb
        generalize cs.getD j 0 = c at *
        have hrem : c % (L : Int) = (i : Int) := by
          have := Int.emod_nonneg c (show (L : Int) ≠ 0 by omega)
          omega
        have hjc' : (j : Int) < (cs.length : Int) := by omega
        have hpi' : (i : Int) < (L : Int) := by omega
        clear hi hcc c2
        go_wp2_with fail
        refine wp_region_clsT 15 (by kernel_rfl) (by kernel_rfl) ?_
        simp only [List.take_succ_cons, List.take_zero, List.drop_succ_cons, List.drop_zero]
        repeat (
          refine wpQuiet_step (fun K hK => ?_)
          go_simp
          first
            | (refine hK _ ?_; clear hK K)
            | (refine ⟨_, fun _ _ => rfl, hK _ ?_⟩; clear hK K)
            | (apply Exists.intro
               refine ⟨fun w' hw' => ?_, hK _ ?_⟩
               · first
                   | (rw [hw'.cell hB1 k1]; exact ⟨rfl, rfl⟩)
                   | (rw [hw'.cell hB1 k2]; exact ⟨rfl, rfl⟩)
                   | (rw [hw'.cell hg1 c1]; exact ⟨rfl, rfl⟩)
                   | (go_at_call 36; first | (with_reducible exact hw'.call (T1 _)) | (with_reducible exact hw'.call (T2 _)))
               clear hK K))
        refine wpQuiet_nil ?_
        intro w' hw'
        have hbw' := nx hbw hw'
        have hz1 := heap_keep hw' hy1
        have hz2 := heap_keep hw' hy2
        obtain ⟨n1, n2⟩ := two_cells hz1
        obtain ⟨f1, f2⟩ := two_frozen hz1
        have hsz' := Nat.le_trans hsz hw'.size
        clear hbw hw' hy1 hy2 k1 k2 c1
        go_wp2_with fail
        have hr1 := set_two (.string (p.1.dropAt x).str) (.string (p.2.dropAt x).str) hz1
        have hr2 : ((w'.setCell ⟨w.heap.size, 0, none⟩ (.string (p.1.dropAt x).str)).setCell ⟨w.heap.size, 1, none⟩ (.string (p.2.dropAt x).str)).heap[w.heap.size + 1]? = some (.cells #[.string ⟨#[]⟩, .string ⟨#[]⟩] 27 (0, 0)) := by
          rw [Below.heap_setCell _ _ _ _ (by simp), Below.heap_setCell _ _ _ _ (by simp)]; exact hz2
        have hbw2 : Below w.heap.size w ((w'.setCell ⟨w.heap.size, 0, none⟩ (.string (p.1.dropAt x).str)).setCell ⟨w.heap.size, 1, none⟩ (.string (p.2.dropAt x).str)) := (hbw'.setCell (Nat.le_refl _) _).setCell (Nat.le_refl _) _
        have hsz2 : w.heap.size + 2 ≤ ((w'.setCell ⟨w.heap.size, 0, none⟩ (.string (p.1.dropAt x).str)).setCell ⟨w.heap.size, 1, none⟩ (.string (p.2.dropAt x).str)).heap.size := by simpa using hsz'
        generalize (w'.setCell ⟨w.heap.size, 0, none⟩ (.string (p.1.dropAt x).str)).setCell ⟨w.heap.size, 1, none⟩ (.string (p.2.dropAt x).str) = w3 at *
        obtain ⟨n1', n2'⟩ := two_cells hr1
        refine (hB (dropP p x) _ (by omega) (by omega)).mono ?_; rintro e w4 ⟨v7, own7, hb4, rfl⟩
        have hu1 := heap_keep hb4 hr1
        have hu2 := heap_keep hb4 hr2
        have own8 : OwnI (w.heap.size + 2) w4 v7 (both (dropP p x)) := own7.mono hsz2
        have hbw4 := nx hbw2 hb4
        have hsz4 := Nat.le_trans hsz2 hb4.size
        clear own7 hb4 hr1 hr2 hbw2 hsz2 n1' n2'
        go_wp2_with fail
        go_roundw
        case rel => exact ⟨dropP p x, j + 1, by go_num, own8, hu1, hu2, hbw4, hsz4, by omega, by omega, by show _ = _; rw [he.out, hstep.out, List.tail_drop]⟩
        case measure =>
          rw [sizeAt_of hu1, HS1.out, Tr.str_size, Tr.str_size]
          have hd1' : (p.1.dropAt x).carets + 1 = p.1.carets := hd1
          omega
      · rw [if_neg hjc] at hi
        subst hi
        have hjc' : ¬ (j : Int) < (cs.length : Int) := by omega
        clear hcc
        go_wp2_with fail
        refine wp_region_clsT 15 (by kernel_rfl) (by kernel_rfl) ?_
        simp only [List.take_succ_cons, List.take_zero, List.drop_succ_cons, List.drop_zero]
        repeat (
          refine wpQuiet_step (fun K hK => ?_)
          go_simp
          first
            | (refine hK _ ?_; clear hK K)
            | (refine ⟨_, fun _ _ => rfl, hK _ ?_⟩; clear hK K)
            | (apply Exists.intro
               refine ⟨fun w' hw' => ?_, hK _ ?_⟩
               · first
                   | (rw [hw'.cell hB1 k1]; exact ⟨rfl, rfl⟩)
                   | (rw [hw'.cell hB1 k2]; exact ⟨rfl, rfl⟩)
                   | (rw [hw'.cell hg1 c1]; exact ⟨rfl, rfl⟩)
                   | (go_at_call 36; first | (with_reducible exact hw'.call (T1 _)) | (with_reducible exact hw'.call (T2 _)))
               clear hK K))
        refine wpQuiet_nil ?_
        intro w' hw'
        have hbw' := nx hbw hw'
        have hz1 := heap_keep hw' hy1
        have hz2 := heap_keep hw' hy2
        obtain ⟨n1, n2⟩ := two_cells hz1
        obtain ⟨f1, f2⟩ := two_frozen hz1
        have hsz' := Nat.le_trans hsz hw'.size
        clear hbw hw' hy1 hy2 k1 k2 c1
        go_wp2_with fail
        have hr1 := set_two (.string (p.1.dropAt x).str) (.string (p.2.dropAt x).str) hz1
        have hr2 : ((w'.setCell ⟨w.heap.size, 0, none⟩ (.string (p.1.dropAt x).str)).setCell ⟨w.heap.size, 1, none⟩ (.string (p.2.dropAt x).str)).heap[w.heap.size + 1]? = some (.cells #[.string ⟨#[]⟩, .string ⟨#[]⟩] 27 (0, 0)) := by
          rw [Below.heap_setCell _ _ _ _ (by simp), Below.heap_setCell _ _ _ _ (by simp)]; exact hz2
        have hbw2 : Below w.heap.size w ((w'.setCell ⟨w.heap.size, 0, none⟩ (.string (p.1.dropAt x).str)).setCell ⟨w.heap.size, 1, none⟩ (.string (p.2.dropAt x).str)) := (hbw'.setCell (Nat.le_refl _) _).setCell (Nat.le_refl _) _
        have hsz2 : w.heap.size + 2 ≤ ((w'.setCell ⟨w.heap.size, 0, none⟩ (.string (p.1.dropAt x).str)).setCell ⟨w.heap.size, 1, none⟩ (.string (p.2.dropAt x).str)).heap.size := by simpa using hsz'
        generalize (w'.setCell ⟨w.heap.size, 0, none⟩ (.string (p.1.dropAt x).str)).setCell ⟨w.heap.size, 1, none⟩ (.string (p.2.dropAt x).str) = w3 at *
        obtain ⟨n1', n2'⟩ := two_cells hr1
        refine (hB (dropP p x) _ (by omega) (by omega)).mono ?_; rintro e w4 ⟨v7, own7, hb4, rfl⟩
        have hu1 := heap_keep hb4 hr1
        have hu2 := heap_keep hb4 hr2
        have own8 : OwnI (w.heap.size + 2) w4 v7 (both (dropP p x)) := own7.mono hsz2
        have hbw4 := nx hbw2 hb4
        have hsz4 := Nat.le_trans hsz2 hb4.size
        clear own7 hb4 hr1 hr2 hbw2 hsz2 n1' n2'
        go_wp2_with fail
        go_roundw
        case rel => exact ⟨dropP p x, j + 1, by go_num, own8, hu1, hu2, hbw4, hsz4, by omega, by omega, by show _ = _; rw [he.out, hstep.out, List.tail_drop]⟩
        case measure =>
          rw [sizeAt_of hu1, HS1.out, Tr.str_size, Tr.str_size]
          have hd1' : (p.1.dropAt x).carets + 1 = p.1.carets := hd1
          omega
end Go.Proofs.Yteflpaebckichaa

/-! RedBy -/
namespace Go.Proofs.Yteflpaebckichaa
open Go.RowKit

theorem firstOf_any (n : Int) (w : World) : Calls Try.prog 44 #[.int .i64 n] w fun e w' => e = .returned (.int .i64 0) ∧ w = w' := by
  go_enter Try.func44, Try.ntmps44
  go_wp2
  go_ret
  exact ⟨rfl, rfl⟩

theorem sharedExposed_tr (p : Pr) (w : World) (k1 : p.1.carets ≤ 200) (k2 : p.2.carets ≤ 200) : Calls Try.prog 64 #[.agg #[.string p.1.str, .string p.2.str]] w (GivesInts (both p) w) := by
  have := sharedExposed_any p.1.str p.2.str w (by have := p.1.str_size; omega) (by have := p.2.str_size; omega)
  rwa [bothL_str] at this

theorem redBy_first {p : Pr} (hl : 0 < (both p).length) : red p = red (dropP p ((both p).getD 0 0)) := by
  have := redBy_pick (p := p) [] 0 hl rfl
  exact this

set_option maxRecDepth 100000 in
set_option maxHeartbeats 2000000 in
theorem reducedBy_first (p0 : Pr) (w : World) (h1 : p0.1.carets ≤ 200) (h2 : p0.2.carets ≤ 200) :
    Calls Try.prog 43 #[.agg #[.string p0.1.str, .string p0.2.str], .func (Fn.func 44) #[] #[]] w (Gives (.agg #[.string (red p0).1.str, .string (red p0).2.str]) w) := by
  go_enter Try.func43, Try.ntmps43
  go_wp2_with fail
  have hb0 : Below w.heap.size w ((w.alloc (.cells #[.string p0.1.str, .string p0.2.str] 27 (0, 0))).alloc (.cells #[.string ⟨#[]⟩, .string ⟨#[]⟩] 27 (0, 0))) := nxAlloc (nxAlloc (Below.refl _ _) _) _
  have hx1 := heap_keep (nxAlloc (Below.refl _ _) (.cells #[.string ⟨#[]⟩, .string ⟨#[]⟩] 27 (0, 0))) (heap_alloc_at w (.cells #[.string p0.1.str, .string p0.2.str] 27 (0, 0)))
  have hx2 := heap_alloc_at (w.alloc (.cells #[.string p0.1.str, .string p0.2.str] 27 (0, 0))) (.cells #[.string ⟨#[]⟩, .string ⟨#[]⟩] 27 (0, 0))
  generalize (w.alloc (.cells #[.string p0.1.str, .string p0.2.str] 27 (0, 0))).alloc (.cells #[.string ⟨#[]⟩, .string ⟨#[]⟩] 27 (0, 0)) = w0 at *
  have e2 : (w.alloc (.cells #[.string p0.1.str, .string p0.2.str] 27 (0, 0))).heap.size = w.heap.size + 1 := by simp
  rw [e2] at hx2
  clear e2
  have hs0 : w.heap.size + 1 < w0.heap.size := lt_of_block hx2
  go_loopw [5] (fun _ wr => ∃ (p : Pr), wr.heap[w.heap.size]? = some (.cells #[.string p.1.str, .string p.2.str] 27 (0, 0)) ∧ wr.heap[w.heap.size + 1]? = some (.cells #[.string ⟨#[]⟩, .string ⟨#[]⟩] 27 (0, 0)) ∧ Below w.heap.size w wr ∧ w.heap.size + 2 ≤ wr.heap.size ∧ p.1.carets ≤ 200 ∧ p.2.carets ≤ 200 ∧ Hid (red p0 = red p)) (fun _ wr => sizeAt wr w.heap.size)
  case atStart => exact ⟨p0, hx1, hx2, hb0, hs0, h1, h2, rfl⟩
  case round =>
    obtain ⟨p, hy1, hy2, hbw, hsz, hp1, hp2, he⟩ := hrel
    have HS1 := Lib.hid (sizeAt_of hy1)
    obtain ⟨k1, k2⟩ := two_cells hy1
    go_wp2_with fail
    refine (sharedExposed_tr p _ hp1 hp2).mono ?_; rintro e w1 ⟨v5, own, hb1, rfl⟩
    have hz1 := heap_keep hb1 hy1
    have hz2 := heap_keep hb1 hy2
    have hbw1 := nx hbw hb1
    have hsz1 := Nat.le_trans hsz hb1.size
    have hown : OwnI (w.heap.size + 2) w1 v5 (both p) := own.mono hsz
    have hf := hown.cells.form
    clear own hb1 hbw hsz k1 k2 hy1 hy2 hown
    obtain ⟨k1, k2⟩ := two_cells hz1
    obtain ⟨ob, bcap, rfl, hbc, hbm, hbcell⟩ := hf
    unfold maxLen at hbm
    by_cases hl : (both p).length = 0
    · have hnil : both p = [] := List.length_eq_zero_iff.1 hl
      have he' := he.out
      rw [(red_self p).2 hnil] at he'
      have HE := Lib.hid he'
      rw [hl]
      obtain ⟨n1, n2⟩ := two_cells hz2
      obtain ⟨f1, f2⟩ := two_frozen hz2
      clear hl hnil he he' hbcell
      go_wp2_with fail
      obtain ⟨r1, r2⟩ := two_cells (set_two (.string p.1.str) (.string p.2.str) hz2)
      refine bodyPost_ret (v := .agg #[.string p.1.str, .string p.2.str]) (by simp [r1, r2, results, Try.results43, go_sem]) rfl ⟨by rw [HE.out], ?_⟩
      exact (hbw1.setCell (by simp) _).setCell (by simp) _
    · -- a step
      have hlp : 0 < (both p).length := by omega
      have hlp' : (((both p).length : Int) == 0) = false := by rw [beq_eq_false_iff_ne]; omega
      have hst := redBy_first hlp
      obtain ⟨m1, m2, hx0, hx9⟩ := both_in p hp1 0 hlp
      obtain ⟨g, rfl, hg0, hg1, c1⟩ := hbcell 0 hlp
      obtain ⟨x, hx⟩ : ∃ x, x = (both p).getD 0 0 := ⟨_, rfl⟩
      rw [← hx] at hst m1 m2 c1 hx0 hx9
      have hstep := Lib.hid hst
      have T1 := fun w => withoutExposed_tr p.1 x w (by omega) m1
      have T2 := fun w => withoutExposed_tr p.2 x w (by omega) m2
      obtain ⟨hd1, hd2⟩ := dropP_carets (p := p) (n := x) (mem_both.2 ⟨m1, m2⟩)
      generalize hL : (both p).length = L at *
      have HL := Lib.hid hL
      have hlq : (0 : Int) < (L : Int) := by omega
      obtain ⟨f1, f2⟩ := two_frozen hz1
      clear hL hx hst m1 m2 hbcell hl
      go_wp2_with fail
      refine (firstOf_any _ _).mono ?_; rintro e w2 ⟨rfl, rfl⟩
      go_wp2_with fail
      refine (T1 _).mono ?_; rintro e w2 ⟨rfl, hb2⟩
      have hz1 := heap_keep hb2 hz1
      have hz2 := heap_keep hb2 hz2
      have hbw2 := nx hbw1 hb2
      have hsz2 := Nat.le_trans hsz1 hb2.size
      obtain ⟨n1, n2⟩ := two_cells hz1
      obtain ⟨f1, f2⟩ := two_frozen hz1
      clear c1 k1 k2 hb2 hbw1 hsz1
      go_wp2_with fail
      have hr1 := set_first (u' := .string (p.1.dropAt x).str) hz1
      have hr2 : (w2.setCell ⟨w.heap.size, 0, none⟩ (.string (p.1.dropAt x).str)).heap[w.heap.size + 1]? = some (.cells #[.string ⟨#[]⟩, .string ⟨#[]⟩] 27 (0, 0)) := by
        rw [Below.heap_setCell _ _ _ _ (by simp)]; exact hz2
      have hbw3 : Below w.heap.size w (w2.setCell ⟨w.heap.size, 0, none⟩ (.string (p.1.dropAt x).str)) := hbw2.setCell (Nat.le_refl _) _
      have hsz3 : w.heap.size + 2 ≤ (w2.setCell ⟨w.heap.size, 0, none⟩ (.string (p.1.dropAt x).str)).heap.size := by simpa using hsz2
      generalize w2.setCell ⟨w.heap.size, 0, none⟩ (.string (p.1.dropAt x).str) = w3 at *
      clear hz1 hz2 n1 n2 f1 f2 hbw2 hsz2
      refine (T2 _).mono ?_; rintro e w4 ⟨rfl, hb4⟩
      have hz1 := heap_keep hb4 hr1
      have hz2 := heap_keep hb4 hr2
      have hbw4 := nx hbw3 hb4
      have hsz4 := Nat.le_trans hsz3 hb4.size
      obtain ⟨n1, n2⟩ := two_cells hz1
      obtain ⟨f1, f2⟩ := two_frozen hz1
      clear hr1 hr2 hbw3 hsz3 hb4
      go_wp2_with fail
      have hu1 := set_second (v' := .string (p.2.dropAt x).str) hz1
      have hu2 : (w4.setCell ⟨w.heap.size, 1, none⟩ (.string (p.2.dropAt x).str)).heap[w.heap.size + 1]? = some (.cells #[.string ⟨#[]⟩, .string ⟨#[]⟩] 27 (0, 0)) := by
        rw [Below.heap_setCell _ _ _ _ (by simp)]; exact hz2
      have hbw5 : Below w.heap.size w (w4.setCell ⟨w.heap.size, 1, none⟩ (.string (p.2.dropAt x).str)) := hbw4.setCell (Nat.le_refl _) _
      have hsz5 : w.heap.size + 2 ≤ (w4.setCell ⟨w.heap.size, 1, none⟩ (.string (p.2.dropAt x).str)).heap.size := by simpa using hsz4
      go_roundw
      case rel => exact ⟨dropP p x, hu1, hu2, hbw5, hsz5, by omega, by omega, by show _ = _; rw [he.out, hstep.out]⟩
      case measure =>
        rw [sizeAt_of hu1, HS1.out, Tr.str_size, Tr.str_size]
        have hd1' : (p.1.dropAt x).carets + 1 = p.1.carets := hd1
        omega
end Go.Proofs.Yteflpaebckichaa

/-! WReducePair -/
namespace Go.Proofs.Yteflpaebckichaa
open Go.RowKit

theorem prReduce_nil (p : Pr) (w : World) (h1 : p.1.carets ≤ 200) (h2 : p.2.carets ≤ 200) :
    Calls Try.prog 23 #[.agg #[.string p.1.str, .string p.2.str], .slice none 0 0] w (Gives (.agg #[.string (red p).1.str, .string (red p).2.str]) w) :=
  prReduce_any p _ [] 0 w h1 h2 (.inl ⟨rfl, rfl⟩) (fun c hc => by simp at hc)

set_option maxHeartbeats 1000000 in
theorem implReducePair_any (a b : ByteArray) (w : World) (ha : a.size ≤ 9223372036854775806) (hb : b.size ≤ 9223372036854775806) :
    Calls Try.prog 26 #[.agg #[.string a, .string b]] w (Gives (ansPr ((pairOf a b).bind fun p => some (red p))) w) := by
  have hg := fun w => isPair_any a b w ha hb
  cases h : pairOf a b with
  | none =>
    rw [h] at hg
    clear h
    go_enter Try.func26, Try.ntmps26
    go_wp2_with fail
    have hb0 : Below w.heap.size w ((w.alloc (.cells #[.string a, .string b] 27 (0, 0))).alloc (.cells #[.string ⟨#[]⟩, .string ⟨#[]⟩] 27 (0, 0))) := nxAlloc (nxAlloc (Below.refl _ _) _) _
    have hx0 := heap_keep (nxAlloc (Below.refl _ _) (.cells #[.string ⟨#[]⟩, .string ⟨#[]⟩] 27 (0, 0))) (heap_alloc_at w (.cells #[.string a, .string b] 27 (0, 0)))
    have hx1 := heap_alloc_at (w.alloc (.cells #[.string a, .string b] 27 (0, 0))) (.cells #[.string ⟨#[]⟩, .string ⟨#[]⟩] 27 (0, 0))
    generalize ((w.alloc (.cells #[.string a, .string b] 27 (0, 0))).alloc (.cells #[.string ⟨#[]⟩, .string ⟨#[]⟩] 27 (0, 0))) = w0 at *
    have e1 : (w.alloc (.cells #[.string a, .string b] 27 (0, 0))).heap.size = w.heap.size + 1 := by simp
    rw [e1] at hx1
    clear e1
    obtain ⟨hx0a, hx0b, hx0c⟩ := two_facts hx0
    obtain ⟨hx0f, hx0g⟩ := two_frozen hx0
    obtain ⟨hx1a, hx1b, hx1c⟩ := two_facts hx1
    obtain ⟨hx1f, hx1g⟩ := two_frozen hx1
    refine (hg _).mono ?_; rintro e w1 ⟨rfl, hb1⟩
    have hbw1 := nx hb0 hb1
    replace hx0 := heap_keep hb1 hx0
    replace hx1 := heap_keep hb1 hx1
    clear hx0a hx0b hx0c hx0f hx0g
    obtain ⟨hx0a, hx0b, hx0c⟩ := two_facts hx0
    obtain ⟨hx0f, hx0g⟩ := two_frozen hx0
    clear hx1a hx1b hx1c hx1f hx1g
    obtain ⟨hx1a, hx1b, hx1c⟩ := two_facts hx1
    obtain ⟨hx1f, hx1g⟩ := two_frozen hx1
    clear hb1 hb0
    go_wp2_with fail
    obtain ⟨q1, q2⟩ := two_cells (set_two (.string ⟨#[]⟩) (.string ⟨#[]⟩) hx1)
    refine bodyPost_ret (v := .tuple #[.agg #[.string ⟨#[]⟩, .string ⟨#[]⟩], .bool false]) (by simp [q1, q2, results, Try.results26, go_sem]) rfl ⟨rfl, ?_⟩
    exact (hbw1.setCell (by show w.heap.size ≤ w.heap.size + 1; omega) _).setCell (by show w.heap.size ≤ w.heap.size + 1; omega) _
  | some p =>
    rw [h] at hg
    obtain ⟨rfl, rfl, hok, hc1, hc2⟩ := pairOf_some h
    clear h
    show Calls _ _ _ _ (Gives (ansPr (some (red p))) w)
    go_enter Try.func26, Try.ntmps26
    go_wp2_with fail
    have hb0 : Below w.heap.size w ((w.alloc (.cells #[.string p.1.str, .string p.2.str] 27 (0, 0))).alloc (.cells #[.string ⟨#[]⟩, .string ⟨#[]⟩] 27 (0, 0))) := nxAlloc (nxAlloc (Below.refl _ _) _) _
    have hx0 := heap_keep (nxAlloc (Below.refl _ _) (.cells #[.string ⟨#[]⟩, .string ⟨#[]⟩] 27 (0, 0))) (heap_alloc_at w (.cells #[.string p.1.str, .string p.2.str] 27 (0, 0)))
    have hx1 := heap_alloc_at (w.alloc (.cells #[.string p.1.str, .string p.2.str] 27 (0, 0))) (.cells #[.string ⟨#[]⟩, .string ⟨#[]⟩] 27 (0, 0))
    generalize ((w.alloc (.cells #[.string p.1.str, .string p.2.str] 27 (0, 0))).alloc (.cells #[.string ⟨#[]⟩, .string ⟨#[]⟩] 27 (0, 0))) = w0 at *
    have e1 : (w.alloc (.cells #[.string p.1.str, .string p.2.str] 27 (0, 0))).heap.size = w.heap.size + 1 := by simp
    rw [e1] at hx1
    clear e1
    obtain ⟨hx0a, hx0b, hx0c⟩ := two_facts hx0
    obtain ⟨hx0f, hx0g⟩ := two_frozen hx0
    obtain ⟨hx1a, hx1b, hx1c⟩ := two_facts hx1
    obtain ⟨hx1f, hx1g⟩ := two_frozen hx1
    refine (hg _).mono ?_; rintro e w1 ⟨rfl, hb1⟩
    have hbw1 := nx hb0 hb1
    replace hx0 := heap_keep hb1 hx0
    replace hx1 := heap_keep hb1 hx1
    clear hx0a hx0b hx0c hx0f hx0g
    obtain ⟨hx0a, hx0b, hx0c⟩ := two_facts hx0
    obtain ⟨hx0f, hx0g⟩ := two_frozen hx0
    clear hx1a hx1b hx1c hx1f hx1g
    obtain ⟨hx1a, hx1b, hx1c⟩ := two_facts hx1
    obtain ⟨hx1f, hx1g⟩ := two_frozen hx1
    clear hb1 hb0
    go_wp2_with fail
    refine (reducedBy_first p _ (by omega) (by omega)).mono ?_; rintro e w2 ⟨rfl, hb2⟩
    have hbw2 := nx hbw1 hb2
    replace hx0 := heap_keep hb2 hx0
    replace hx1 := heap_keep hb2 hx1
    clear hx0a hx0b hx0c hx0f hx0g
    obtain ⟨hx0a, hx0b, hx0c⟩ := two_facts hx0
    obtain ⟨hx0f, hx0g⟩ := two_frozen hx0
    clear hx1a hx1b hx1c hx1f hx1g
    obtain ⟨hx1a, hx1b, hx1c⟩ := two_facts hx1
    obtain ⟨hx1f, hx1g⟩ := two_frozen hx1
    clear hb2 hbw1
    go_wp2_with fail
    obtain ⟨q1, q2⟩ := two_cells (set_two (.string (red p).1.str) (.string (red p).2.str) hx1)
    refine bodyPost_ret (v := .tuple #[.agg #[.string (red p).1.str, .string (red p).2.str], .bool true]) (by simp [q1, q2, results, Try.results26, go_sem]) rfl ⟨rfl, ?_⟩
    exact (hbw2.setCell (by show w.heap.size ≤ w.heap.size + 1; omega) _).setCell (by show w.heap.size ≤ w.heap.size + 1; omega) _

end Go.Proofs.Yteflpaebckichaa

/-! TreeO -/
namespace Go.Proofs.Yteflpaebckichaa
open Go.RowKit

theorem keep_cell {w w' : World} {b o : Nat} {v : Value} (hb : Below w.heap.size w w') (h : w.cell? ⟨b, o, none⟩ = some v) : w'.cell? ⟨b, o, none⟩ = some v :=
  (hb.cell (p := ⟨b, o, none⟩) (World.block_lt_of_cell? _ _ h)).trans h

theorem treeOf_any (t : Tr) (w : World) (h : t.carets ≤ 1000) : Calls Try.prog 94 #[.string t.str] w (GivesNode t w) := by
  have hz := t.str_size
  have hp := place_any (t.str.size + 1) t.str
  rw [parse_str t _ (by have := t.text_len; omega)] at hp
  have hp' : ∀ w, Calls Try.prog 83 #[.string t.str] w (PlaceOk t [] t.str w) := fun w => hp w (by omega) (by omega)
  clear hz hp
  go_enter Try.func94, Try.ntmps94
  go_wp2_with fail
  refine (hp' _).mono ?_; rintro e w1 ⟨b1, s1, hs1, hz1, hn1, hb1, rfl⟩
  clear hs1 hz1
  go_wp2_with fail
  go_ret
  exact ⟨b1, hn1, hb1, rfl⟩

end Go.Proofs.Yteflpaebckichaa

/-! Times -/
namespace Go.Proofs.Yteflpaebckichaa
open Go.RowKit

/-- What is asked of the factors of a product, and what its parts are. -/
theorem raw_len {p q : Pr} (hp : okP p) (hq : okP q) : (subsS p.2 (p.2.join q.1)).length = p.1.leaves ∧ (subsS q.1 (p.2.join q.1)).length = q.2.leaves := by
  have h1 := subsS_length p.2 _ (part_join p.2 q.1)
  have h2 := subsS_length q.1 _ (part_join' p.2 q.1)
  unfold okP Tr.leaves at *
  omega
theorem raw_fill1 {p q : Pr} (hp : okP p) (hq : okP q) : fillB p.1.str (subsS p.2 (p.2.join q.1)) = (rawP p q).1.str :=
  fillB_tr p.1 _ (by have := (raw_len hp hq).1; unfold subsS at this; simpa using this)
theorem raw_fill2 {p q : Pr} (hp : okP p) (hq : okP q) : fillB q.2.str (subsS q.1 (p.2.join q.1)) = (rawP p q).2.str :=
  fillB_tr q.2 _ (by have := (raw_len hp hq).2; unfold subsS at this; simpa using this)
theorem fillL_of {s : ByteArray} {us : List ByteArray} {t : Tr} (h : fillB s us = t.str) : fillL s.data.toList us = t.text := by
  have := congrArg (fun b : ByteArray => b.data.toList) h
  simpa [fillB, Tr.str] using this
theorem text_ne (t : Tr) : t.text ≠ [] := by cases t <;> simp [Tr.text]

theorem prFill_raw1 {p q : Pr} (hp : okP p) (hq : okP q) (h1 : p.1.carets ≤ 30) (h2 : q.1.carets ≤ 30) (b1 : Nat) (v : Value) (w : World) (hv : CellsS b1 w v (subsS p.2 (p.2.join q.1))) :
    Calls Try.prog 60 #[.string p.1.str, v] w (Gives (.string (rawP p q).1.str) w) := by
  have hl := raw_len hp hq
  have hr := rawP_carets hp hq
  have hj := join_carets p.2 q.1
  have ht := (rawP p q).1.text_len
  unfold okP at hp hq
  have hz := p.1.str_size
  unfold Tr.leaves at hl
  have := prFill_any b1 p.1.str v _ w (by omega) hv (by rw [Tr.str_list, text_dots]; omega) (by omega) (by rw [fillL_of (raw_fill1 hp hq)]; omega)
  rwa [raw_fill1 hp hq] at this

theorem prFill_raw2 {p q : Pr} (hp : okP p) (hq : okP q) (h1 : p.1.carets ≤ 30) (h2 : q.1.carets ≤ 30) (b1 : Nat) (v : Value) (w : World) (hv : CellsS b1 w v (subsS q.1 (p.2.join q.1))) :
    Calls Try.prog 60 #[.string q.2.str, v] w (Gives (.string (rawP p q).2.str) w) := by
  have hl := raw_len hp hq
  have hr := rawP_carets hp hq
  have hj := join_carets p.2 q.1
  have ht := (rawP p q).2.text_len
  unfold okP at hp hq
  have hz := q.2.str_size
  unfold Tr.leaves at hl
  have := prFill_any b1 q.2.str v _ w (by omega) hv (by rw [Tr.str_list, text_dots]; omega) (by omega) (by rw [fillL_of (raw_fill2 hp hq)]; omega)
  rwa [raw_fill2 hp hq] at this

theorem withLeaves_raw1 {p q : Pr} (hp : okP p) (hq : okP q) (h1 : p.1.carets ≤ 30) (h2 : q.1.carets ≤ 30) (b1 : Nat) (v : Value) (w : World) (hv : CellsS b1 w v (subsS p.2 (p.2.join q.1))) :
    Calls Try.prog 96 #[.string p.1.str, v] w (Gives (.string (rawP p q).1.str) w) := by
  have hl := raw_len hp hq
  have hr := rawP_carets hp hq
  have hj := join_carets p.2 q.1
  have ht := (rawP p q).1.text_len
  unfold okP at hp hq
  have hz := p.1.str_size
  unfold Tr.leaves at hl
  have := withLeaves_any b1 p.1.str v _ w (by omega) hv (by rw [Tr.str_list, text_dots]; omega) (by omega) (by rw [fillL_of (raw_fill1 hp hq)]; omega) (by rw [fillL_of (raw_fill1 hp hq)]; exact text_ne _)
  rwa [raw_fill1 hp hq] at this

theorem withLeaves_raw2 {p q : Pr} (hp : okP p) (hq : okP q) (h1 : p.1.carets ≤ 30) (h2 : q.1.carets ≤ 30) (b1 : Nat) (v : Value) (w : World) (hv : CellsS b1 w v (subsS q.1 (p.2.join q.1))) :
    Calls Try.prog 96 #[.string q.2.str, v] w (Gives (.string (rawP p q).2.str) w) := by
  have hl := raw_len hp hq
  have hr := rawP_carets hp hq
  have hj := join_carets p.2 q.1
  have ht := (rawP p q).2.text_len
  unfold okP at hp hq
  have hz := q.2.str_size
  unfold Tr.leaves at hl
  have := withLeaves_any b1 q.2.str v _ w (by omega) hv (by rw [Tr.str_list, text_dots]; omega) (by omega) (by rw [fillL_of (raw_fill2 hp hq)]; omega) (by rw [fillL_of (raw_fill2 hp hq)]; exact text_ne _)
  rwa [raw_fill2 hp hq] at this

set_option maxRecDepth 100000 in
set_option maxHeartbeats 4000000 in
theorem product_any (p q : Pr) (w : World) (hp : okP p) (hq : okP q) (h1 : p.1.carets ≤ 30) (h2 : q.1.carets ≤ 30) :
    Calls Try.prog 82 #[.agg #[.string p.1.str, .string p.2.str], .agg #[.string q.1.str, .string q.2.str]] w (Gives (.agg #[.string (mulP p q).1.str, .string (mulP p q).2.str]) w) := by
  have hr := rawP_carets hp hq
  have hj := join_carets p.2 q.1
  have hp' : p.1.carets = p.2.carets := hp
  have hq' : q.1.carets = q.2.carets := hq
  have T1 := fun w => treeOf_any p.2 w (by omega)
  have T2 := fun w => treeOf_any q.1 w (by omega)
  have W1 := fun b v w h => withLeaves_raw1 hp hq h1 h2 b v w h
  have W2 := fun b v w h => withLeaves_raw2 hp hq h1 h2 b v w h
  have RR : ∀ w, Calls Try.prog 43 #[.agg #[.string (rawP p q).1.str, .string (rawP p q).2.str], .func (Fn.func 44) #[] #[]] w (Gives (.agg #[.string (mulP p q).1.str, .string (mulP p q).2.str]) w) := fun w => reducedBy_first (rawP p q) w (by omega) (by omega)
  have PJ1 := part_join p.2 q.1
  have PJ2 := part_join' p.2 q.1
  have hjc : (p.2.join q.1).carets ≤ 60 := by omega
  clear hr hj
  go_enter Try.func82, Try.ntmps82
  go_wp2_with fail
  have hb0 : Below w.heap.size w (((w.alloc (.cells #[.string p.1.str, .string p.2.str] 27 (0, 0))).alloc (.cells #[.string q.1.str, .string q.2.str] 27 (0, 0))).alloc (.cells #[.string ⟨#[]⟩, .string ⟨#[]⟩] 27 (0, 0))) := nxAlloc (nxAlloc (nxAlloc (Below.refl _ _) _) _) _
  have hx0 := heap_keep (nxAlloc (Below.refl _ _) (.cells #[.string ⟨#[]⟩, .string ⟨#[]⟩] 27 (0, 0))) (heap_keep (nxAlloc (Below.refl _ _) (.cells #[.string q.1.str, .string q.2.str] 27 (0, 0))) (heap_alloc_at w (.cells #[.string p.1.str, .string p.2.str] 27 (0, 0))))
  have hx1 := heap_keep (nxAlloc (Below.refl _ _) (.cells #[.string ⟨#[]⟩, .string ⟨#[]⟩] 27 (0, 0))) (heap_alloc_at (w.alloc (.cells #[.string p.1.str, .string p.2.str] 27 (0, 0))) (.cells #[.string q.1.str, .string q.2.str] 27 (0, 0)))
  have hx2 := heap_alloc_at ((w.alloc (.cells #[.string p.1.str, .string p.2.str] 27 (0, 0))).alloc (.cells #[.string q.1.str, .string q.2.str] 27 (0, 0))) (.cells #[.string ⟨#[]⟩, .string ⟨#[]⟩] 27 (0, 0))
  generalize (((w.alloc (.cells #[.string p.1.str, .string p.2.str] 27 (0, 0))).alloc (.cells #[.string q.1.str, .string q.2.str] 27 (0, 0))).alloc (.cells #[.string ⟨#[]⟩, .string ⟨#[]⟩] 27 (0, 0))) = w0 at *
  have e1 : (w.alloc (.cells #[.string p.1.str, .string p.2.str] 27 (0, 0))).heap.size = w.heap.size + 1 := by simp
  rw [e1] at hx1
  clear e1
  have e2 : ((w.alloc (.cells #[.string p.1.str, .string p.2.str] 27 (0, 0))).alloc (.cells #[.string q.1.str, .string q.2.str] 27 (0, 0))).heap.size = w.heap.size + 1 + 1 := by simp
  rw [e2] at hx2
  clear e2
  obtain ⟨hx0a, hx0b, hx0c⟩ := two_facts hx0
  obtain ⟨hx0f, hx0g⟩ := two_frozen hx0
  obtain ⟨hx1a, hx1b, hx1c⟩ := two_facts hx1
  obtain ⟨hx1f, hx1g⟩ := two_frozen hx1
  obtain ⟨hx2a, hx2b, hx2c⟩ := two_facts hx2
  obtain ⟨hx2f, hx2g⟩ := two_frozen hx2
  have hz0 := Below.refl w0.heap.size w0
  go_region_held3 (fun w' => w'.cell? ⟨w.heap.size, 1, none⟩ = some (.string p.2.str) ∧ w'.cell? ⟨w.heap.size + 1, 0, none⟩ = some (.string q.1.str))
    (first
      | exact ⟨hx0b, hx1a⟩
      | exact ⟨A1, A2⟩
      | exact ⟨B1, B2⟩)
    (first
      | (go_at_call 94; (with_reducible refine (T1 _).mono ?_); rintro e w1 ⟨b1, hn1, hb1, rfl⟩; have hb1' := nx hz0.drew hb1; have A1 := keep_cell hb1' hx0b; have A2 := keep_cell hb1' hx1a)
      | (go_at_call 94; (with_reducible refine (T2 _).mono ?_); rintro e w2 ⟨b2, hn2, hb2, rfl⟩; have hb2' := nx hb1' hb2; have B1 := keep_cell hb2' hx0b; have B2 := keep_cell hb2' hx1a))
  go_wp2_with fail
  have hn1' := hn1.keep hb2
  refine (join_any p.2 q.1 b1 b2 _ hn1' hn2).mono ?_; rintro e w3 ⟨b3, hn3, hb3, rfl⟩
  have hbw3 := nx hb0 (nx hb2' hb3)
  have m1 := hn1'.keep hb3
  have m2 := hn2.keep hb3
  have hy0 := heap_keep (nx hb2' hb3) hx0
  have hy1 := heap_keep (nx hb2' hb3) hx1
  have hy2 := heap_keep (nx hb2' hb3) hx2
  have hb00 := Below.refl w3.heap.size w3
  clear hx0 hx1 hx2 hx0a hx0b hx0c hx0f hx0g hx1a hx1b hx1c hx1f hx1g hx2a hx2b hx2c hx2f hx2g A1 A2 B1 B2 hn1 hn2 hn1' hb1 hb2 hb1' hb2' hb3 hz0 hb0 T1 T2
  obtain ⟨k1, _⟩ := two_cells hy0
  obtain ⟨_, k2⟩ := two_cells hy1
  generalize hJ : p.2.join q.1 = J at *
  clear hJ
  go_wp2_with fail
  go_region_held3 (fun w' => w'.cell? ⟨w.heap.size, 0, none⟩ = some (.string p.1.str) ∧ w'.cell? ⟨w.heap.size + 1, 1, none⟩ = some (.string q.2.str))
    (first
      | exact ⟨k1, k2⟩
      | exact ⟨A1, A2⟩
      | exact ⟨B1, B2⟩
      | exact ⟨C1, C2⟩
      | exact ⟨D1, D2⟩
      | exact ⟨E1, E2⟩
      | exact ⟨G1, G2⟩)
    (first
      | (go_at_call_of 97 (some (⟨b1, 0, none⟩ : Addr)); refine (below_any p.2 J b1 b3 _ ?_ ?_ PJ1 hjc).mono ?_; exact m1.keep hb00.drew; exact hn3.keep hb00.drew; rintro e w4 ⟨g1, cap1, own1, hb4, rfl⟩; have hb4' := nx hb00.drew hb4; have A1 := keep_cell hb4' k1; have A2 := keep_cell hb4' k2)
      | (go_at_call_of 96 (some (⟨g1, 0, none⟩ : Addr)); refine (W1 _ _ _ own1.cells).mono ?_; rintro e w5 ⟨rfl, hb5⟩; have hb5' := nx hb4' hb5; have B1 := keep_cell hb5' k1; have B2 := keep_cell hb5' k2)
      | (go_at_call_of 97 (some (⟨b2, 0, none⟩ : Addr)); refine (below_any q.1 J b2 b3 _ ?_ ?_ PJ2 hjc).mono ?_; exact m2.keep hb5'; exact hn3.keep hb5'; rintro e w6 ⟨g2, cap2, own2, hb6, rfl⟩; have hb6' := nx hb5' hb6; have C1 := keep_cell hb6' k1; have C2 := keep_cell hb6' k2)
      | (go_at_call_of 96 (some (⟨g2, 0, none⟩ : Addr)); refine (W2 _ _ _ own2.cells).mono ?_; rintro e w7 ⟨rfl, hb7⟩; have hb7' := nx hb6' hb7; have D1 := keep_cell hb7' k1; have D2 := keep_cell hb7' k2)
      | (go_at_call 43; refine (RR _).mono ?_; rintro e w8 ⟨rfl, hb8⟩; have hb8' := nx hb7' hb8; have E1 := keep_cell hb8' k1; have E2 := keep_cell hb8' k2; have hz2 := heap_keep hb8' hy2; have hz0 := heap_keep hb8' hy0; have hz1 := heap_keep hb8' hy1; obtain ⟨n1, n2⟩ := two_cells hz2; obtain ⟨f1, f2⟩ := two_frozen hz2; have hq0 := (Below.heap_setCell (w8.setCell ⟨w.heap.size + 1 + 1, 0, none⟩ (.string (mulP p q).1.str)) ⟨w.heap.size + 1 + 1, 1, none⟩ (.string (mulP p q).2.str) w.heap.size (by show ¬ w.heap.size = w.heap.size + 1 + 1; omega)).trans ((Below.heap_setCell w8 ⟨w.heap.size + 1 + 1, 0, none⟩ (.string (mulP p q).1.str) w.heap.size (by show ¬ w.heap.size = w.heap.size + 1 + 1; omega)).trans hz0); have hq1 := (Below.heap_setCell (w8.setCell ⟨w.heap.size + 1 + 1, 0, none⟩ (.string (mulP p q).1.str)) ⟨w.heap.size + 1 + 1, 1, none⟩ (.string (mulP p q).2.str) (w.heap.size + 1) (by show ¬ w.heap.size + 1 = w.heap.size + 1 + 1; omega)).trans ((Below.heap_setCell w8 ⟨w.heap.size + 1 + 1, 0, none⟩ (.string (mulP p q).1.str) (w.heap.size + 1) (by show ¬ w.heap.size + 1 = w.heap.size + 1 + 1; omega)).trans hz1); have G1 := (two_cells hq0).1; have G2 := (two_cells hq1).2))
  go_wp2_with fail
  obtain ⟨q1, q2⟩ := two_cells (set_two (.string (mulP p q).1.str) (.string (mulP p q).2.str) hz2)
  refine bodyPost_ret (v := .agg #[.string (mulP p q).1.str, .string (mulP p q).2.str]) (by simp [q1, q2, results, Try.results82, go_sem]) rfl ⟨rfl, ?_⟩
  exact ((nx hbw3 hb8').setCell (by show w.heap.size ≤ w.heap.size + 1 + 1; omega) _).setCell (by show w.heap.size ≤ w.heap.size + 1 + 1; omega) _

set_option maxRecDepth 100000 in
set_option maxHeartbeats 4000000 in
theorem prTimes_any (p q : Pr) (w : World) (hp : okP p) (hq : okP q) (h1 : p.1.carets ≤ 30) (h2 : q.1.carets ≤ 30) :
    Calls Try.prog 40 #[.agg #[.string p.1.str, .string p.2.str], .agg #[.string q.1.str, .string q.2.str]] w (Gives (.agg #[.string (mulP p q).1.str, .string (mulP p q).2.str]) w) := by
  have hr := rawP_carets hp hq
  have hj := join_carets p.2 q.1
  have hp' : p.1.carets = p.2.carets := hp
  have hq' : q.1.carets = q.2.carets := hq
  have W1 := fun b v w h => prFill_raw1 hp hq h1 h2 b v w h
  have W2 := fun b v w h => prFill_raw2 hp hq h1 h2 b v w h
  have RR : ∀ w, Calls Try.prog 23 #[.agg #[.string (rawP p q).1.str, .string (rawP p q).2.str], .slice none 0 0] w (Gives (.agg #[.string (mulP p q).1.str, .string (mulP p q).2.str]) w) := fun w => prReduce_nil (rawP p q) w (by omega) (by omega)
  have P1 := fun w => prParts_any p.2 (p.2.join q.1) w (part_join p.2 q.1) (by omega)
  have P2 := fun w => prParts_any q.1 (p.2.join q.1) w (part_join' p.2 q.1) (by omega)
  have J := fun w => trJoin_any p.2 q.1 w (by omega) (by omega)
  clear hr hj
  go_enter Try.func40, Try.ntmps40
  go_wp2_with fail
  have hb0 : Below w.heap.size w (((w.alloc (.cells #[.string p.1.str, .string p.2.str] 27 (0, 0))).alloc (.cells #[.string q.1.str, .string q.2.str] 27 (0, 0))).alloc (.cells #[.string ⟨#[]⟩, .string ⟨#[]⟩] 27 (0, 0))) := nxAlloc (nxAlloc (nxAlloc (Below.refl _ _) _) _) _
  have hx0 := heap_keep (nxAlloc (Below.refl _ _) (.cells #[.string ⟨#[]⟩, .string ⟨#[]⟩] 27 (0, 0))) (heap_keep (nxAlloc (Below.refl _ _) (.cells #[.string q.1.str, .string q.2.str] 27 (0, 0))) (heap_alloc_at w (.cells #[.string p.1.str, .string p.2.str] 27 (0, 0))))
  have hx1 := heap_keep (nxAlloc (Below.refl _ _) (.cells #[.string ⟨#[]⟩, .string ⟨#[]⟩] 27 (0, 0))) (heap_alloc_at (w.alloc (.cells #[.string p.1.str, .string p.2.str] 27 (0, 0))) (.cells #[.string q.1.str, .string q.2.str] 27 (0, 0)))
  have hx2 := heap_alloc_at ((w.alloc (.cells #[.string p.1.str, .string p.2.str] 27 (0, 0))).alloc (.cells #[.string q.1.str, .string q.2.str] 27 (0, 0))) (.cells #[.string ⟨#[]⟩, .string ⟨#[]⟩] 27 (0, 0))
  generalize (((w.alloc (.cells #[.string p.1.str, .string p.2.str] 27 (0, 0))).alloc (.cells #[.string q.1.str, .string q.2.str] 27 (0, 0))).alloc (.cells #[.string ⟨#[]⟩, .string ⟨#[]⟩] 27 (0, 0))) = w0 at *
  have e1 : (w.alloc (.cells #[.string p.1.str, .string p.2.str] 27 (0, 0))).heap.size = w.heap.size + 1 := by simp
  rw [e1] at hx1
  clear e1
  have e2 : ((w.alloc (.cells #[.string p.1.str, .string p.2.str] 27 (0, 0))).alloc (.cells #[.string q.1.str, .string q.2.str] 27 (0, 0))).heap.size = w.heap.size + 1 + 1 := by simp
  rw [e2] at hx2
  clear e2
  obtain ⟨hx0a, hx0b, hx0c⟩ := two_facts hx0
  obtain ⟨hx0f, hx0g⟩ := two_frozen hx0
  obtain ⟨hx1a, hx1b, hx1c⟩ := two_facts hx1
  obtain ⟨hx1f, hx1g⟩ := two_frozen hx1
  obtain ⟨hx2a, hx2b, hx2c⟩ := two_facts hx2
  obtain ⟨hx2f, hx2g⟩ := two_frozen hx2
  refine (J _).mono ?_; rintro e w1 ⟨rfl, hb1⟩
  have hbw1 := nx hb0 hb1
  replace hx0 := heap_keep hb1 hx0
  replace hx1 := heap_keep hb1 hx1
  replace hx2 := heap_keep hb1 hx2
  clear hx0a hx0b hx0c hx0f hx0g
  obtain ⟨hx0a, hx0b, hx0c⟩ := two_facts hx0
  obtain ⟨hx0f, hx0g⟩ := two_frozen hx0
  clear hx1a hx1b hx1c hx1f hx1g
  obtain ⟨hx1a, hx1b, hx1c⟩ := two_facts hx1
  obtain ⟨hx1f, hx1g⟩ := two_frozen hx1
  clear hx2a hx2b hx2c hx2f hx2g
  obtain ⟨hx2a, hx2b, hx2c⟩ := two_facts hx2
  obtain ⟨hx2f, hx2g⟩ := two_frozen hx2
  clear hb1 hb0
  have hb00 := Below.refl w1.heap.size w1
  generalize p.2.join q.1 = G at *
  go_wp2_with fail
  go_region_held3 (fun w' => w'.cell? ⟨w.heap.size, 0, none⟩ = some (.string p.1.str) ∧ w'.cell? ⟨w.heap.size, 1, none⟩ = some (.string p.2.str) ∧ w'.cell? ⟨w.heap.size + 1, 0, none⟩ = some (.string q.1.str) ∧ w'.cell? ⟨w.heap.size + 1, 1, none⟩ = some (.string q.2.str))
    (first
      | exact ⟨hx0a, hx0b, hx1a, hx1b⟩
      | exact ⟨A1.1, A1.2, A2.1, A2.2⟩
      | exact ⟨B1.1, B1.2, B2.1, B2.2⟩
      | exact ⟨C1.1, C1.2, C2.1, C2.2⟩
      | exact ⟨D1.1, D1.2, D2.1, D2.2⟩
      | exact ⟨E1.1, E1.2, E2.1, E2.2⟩
      | exact ⟨G1.1, G1.2, G2.1, G2.2⟩)
    (first
      | (go_at_call 61; (with_reducible refine (P1 _).mono ?_); rintro e w4 ⟨g1, cap1, own1, hb4, rfl⟩; have hb4' := nx hb00.drew hb4; have A1 := two_cells (heap_keep hb4' hx0); have A2 := two_cells (heap_keep hb4' hx1))
      | (go_at_call_of 60 (some (⟨g1, 0, none⟩ : Addr)); refine (W1 _ _ _ own1.cells).mono ?_; rintro e w5 ⟨rfl, hb5⟩; have hb5' := nx hb4' hb5; have B1 := two_cells (heap_keep hb5' hx0); have B2 := two_cells (heap_keep hb5' hx1))
      | (go_at_call 61; (with_reducible refine (P2 _).mono ?_); rintro e w6 ⟨g2, cap2, own2, hb6, rfl⟩; have hb6' := nx hb5' hb6; have C1 := two_cells (heap_keep hb6' hx0); have C2 := two_cells (heap_keep hb6' hx1))
      | (go_at_call_of 60 (some (⟨g2, 0, none⟩ : Addr)); refine (W2 _ _ _ own2.cells).mono ?_; rintro e w7 ⟨rfl, hb7⟩; have hb7' := nx hb6' hb7; have D1 := two_cells (heap_keep hb7' hx0); have D2 := two_cells (heap_keep hb7' hx1))
      | (go_at_call 23; refine (RR _).mono ?_; rintro e w8 ⟨rfl, hb8⟩; have hb8' := nx hb7' hb8; have hz0 := heap_keep hb8' hx0; have hz1 := heap_keep hb8' hx1; have hz2 := heap_keep hb8' hx2; have E1 := two_cells hz0; have E2 := two_cells hz1; obtain ⟨n1, n2⟩ := two_cells hz2; obtain ⟨f1, f2⟩ := two_frozen hz2; have hq0 := (Below.heap_setCell (w8.setCell ⟨w.heap.size + 1 + 1, 0, none⟩ (.string (mulP p q).1.str)) ⟨w.heap.size + 1 + 1, 1, none⟩ (.string (mulP p q).2.str) w.heap.size (by show ¬ w.heap.size = w.heap.size + 1 + 1; omega)).trans ((Below.heap_setCell w8 ⟨w.heap.size + 1 + 1, 0, none⟩ (.string (mulP p q).1.str) w.heap.size (by show ¬ w.heap.size = w.heap.size + 1 + 1; omega)).trans hz0); have hq1 := (Below.heap_setCell (w8.setCell ⟨w.heap.size + 1 + 1, 0, none⟩ (.string (mulP p q).1.str)) ⟨w.heap.size + 1 + 1, 1, none⟩ (.string (mulP p q).2.str) (w.heap.size + 1) (by show ¬ (w.heap.size + 1) = w.heap.size + 1 + 1; omega)).trans ((Below.heap_setCell w8 ⟨w.heap.size + 1 + 1, 0, none⟩ (.string (mulP p q).1.str) (w.heap.size + 1) (by show ¬ (w.heap.size + 1) = w.heap.size + 1 + 1; omega)).trans hz1); have G1 := two_cells hq0; have G2 := two_cells hq1))
  go_wp2_with fail
  obtain ⟨q1, q2⟩ := two_cells (set_two (.string (mulP p q).1.str) (.string (mulP p q).2.str) hz2)
  refine bodyPost_ret (v := .agg #[.string (mulP p q).1.str, .string (mulP p q).2.str]) (by simp [q1, q2, results, Try.results40, go_sem]) rfl ⟨rfl, ?_⟩
  exact ((nx hbw1 hb8').setCell (by show w.heap.size ≤ w.heap.size + 1 + 1; omega) _).setCell (by show w.heap.size ≤ w.heap.size + 1 + 1; omega) _
end Go.Proofs.Yteflpaebckichaa

/-! LimP -/
namespace Go.Proofs.Yteflpaebckichaa
open Go.RowKit

/-- A pair, if its trees have no more carets than allowed. -/
def limP (p : Pr) : Option Pr := if p.1.carets ≤ 8 then some p else none
theorem treeOf_big {t : Tr} (h : 8 < t.carets) : treeOf t.str = none := by
  unfold treeOf
  rw [parse_str t _ (by have := t.str_size; have := t.text_len; omega)]
  show (if t.carets ≤ 8 then some t else none) = none
  rw [if_neg (by omega)]
theorem pairOf_lim {p : Pr} (h : okP p) : pairOf p.1.str p.2.str = limP p := by
  unfold limP
  by_cases hc : p.1.carets ≤ 8
  · rw [if_pos hc, pairOf_str h hc]
  · rw [if_neg hc]
    unfold pairOf
    rw [treeOf_big (by omega)]

set_option maxHeartbeats 1000000 in
theorem prIf_any (p : Pr) (w : World) (hok : okP p) (hz : p.1.carets ≤ 1000) :
    Calls Try.prog 58 #[.agg #[.string p.1.str, .string p.2.str]] w (Gives (ansPr (limP p)) w) := by
  have hz2 : p.2.carets ≤ 1000 := by unfold okP at hok; omega
  have s1 := p.1.str_size
  have s2 := p.2.str_size
  have hg := fun w => prGood_any p.1.str p.2.str w (by omega) (by omega)
  rw [pairOf_lim hok] at hg
  clear s1 s2
  cases h : limP p with
  | none =>
    rw [h] at hg
    clear h
    go_enter Try.func58, Try.ntmps58
    go_wp2_with fail
    have hb0 : Below w.heap.size w ((w.alloc (.cells #[.string p.1.str, .string p.2.str] 27 (0, 0))).alloc (.cells #[.string ⟨#[]⟩, .string ⟨#[]⟩] 27 (0, 0))) := nxAlloc (nxAlloc (Below.refl _ _) _) _
    have hx0 := heap_keep (nxAlloc (Below.refl _ _) (.cells #[.string ⟨#[]⟩, .string ⟨#[]⟩] 27 (0, 0))) (heap_alloc_at w (.cells #[.string p.1.str, .string p.2.str] 27 (0, 0)))
    have hx1 := heap_alloc_at (w.alloc (.cells #[.string p.1.str, .string p.2.str] 27 (0, 0))) (.cells #[.string ⟨#[]⟩, .string ⟨#[]⟩] 27 (0, 0))
    generalize ((w.alloc (.cells #[.string p.1.str, .string p.2.str] 27 (0, 0))).alloc (.cells #[.string ⟨#[]⟩, .string ⟨#[]⟩] 27 (0, 0))) = w0 at *
    have e1 : (w.alloc (.cells #[.string p.1.str, .string p.2.str] 27 (0, 0))).heap.size = w.heap.size + 1 := by simp
    rw [e1] at hx1
    clear e1
    obtain ⟨hx0a, hx0b, hx0c⟩ := two_facts hx0
    obtain ⟨hx0f, hx0g⟩ := two_frozen hx0
    obtain ⟨hx1a, hx1b, hx1c⟩ := two_facts hx1
    obtain ⟨hx1f, hx1g⟩ := two_frozen hx1
    refine (hg _).mono ?_; rintro e w1 ⟨rfl, hb1⟩
    have hbw1 := nx hb0 hb1
    replace hx0 := heap_keep hb1 hx0
    replace hx1 := heap_keep hb1 hx1
    clear hx0a hx0b hx0c hx0f hx0g
    obtain ⟨hx0a, hx0b, hx0c⟩ := two_facts hx0
    obtain ⟨hx0f, hx0g⟩ := two_frozen hx0
    clear hx1a hx1b hx1c hx1f hx1g
    obtain ⟨hx1a, hx1b, hx1c⟩ := two_facts hx1
    obtain ⟨hx1f, hx1g⟩ := two_frozen hx1
    clear hb1 hb0
    go_wp2_with fail
    obtain ⟨q1, q2⟩ := two_cells (set_two (.string ⟨#[]⟩) (.string ⟨#[]⟩) hx1)
    refine bodyPost_ret (v := .tuple #[.agg #[.string ⟨#[]⟩, .string ⟨#[]⟩], .bool false]) (by simp [q1, q2, results, Try.results58, go_sem]) rfl ⟨rfl, ?_⟩
    exact (hbw1.setCell (by show w.heap.size ≤ w.heap.size + 1; omega) _).setCell (by show w.heap.size ≤ w.heap.size + 1; omega) _
  | some q =>
    have e : q = p := by
      unfold limP at h
      split at h
      · injection h with h; exact h.symm
      · simp at h
    subst e
    rw [h] at hg
    clear h
    go_enter Try.func58, Try.ntmps58
    go_wp2_with fail
    have hb0 : Below w.heap.size w ((w.alloc (.cells #[.string q.1.str, .string q.2.str] 27 (0, 0))).alloc (.cells #[.string ⟨#[]⟩, .string ⟨#[]⟩] 27 (0, 0))) := nxAlloc (nxAlloc (Below.refl _ _) _) _
    have hx0 := heap_keep (nxAlloc (Below.refl _ _) (.cells #[.string ⟨#[]⟩, .string ⟨#[]⟩] 27 (0, 0))) (heap_alloc_at w (.cells #[.string q.1.str, .string q.2.str] 27 (0, 0)))
    have hx1 := heap_alloc_at (w.alloc (.cells #[.string q.1.str, .string q.2.str] 27 (0, 0))) (.cells #[.string ⟨#[]⟩, .string ⟨#[]⟩] 27 (0, 0))
    generalize ((w.alloc (.cells #[.string q.1.str, .string q.2.str] 27 (0, 0))).alloc (.cells #[.string ⟨#[]⟩, .string ⟨#[]⟩] 27 (0, 0))) = w0 at *
    have e1 : (w.alloc (.cells #[.string q.1.str, .string q.2.str] 27 (0, 0))).heap.size = w.heap.size + 1 := by simp
    rw [e1] at hx1
    clear e1
    obtain ⟨hx0a, hx0b, hx0c⟩ := two_facts hx0
    obtain ⟨hx0f, hx0g⟩ := two_frozen hx0
    obtain ⟨hx1a, hx1b, hx1c⟩ := two_facts hx1
    obtain ⟨hx1f, hx1g⟩ := two_frozen hx1
    refine (hg _).mono ?_; rintro e w1 ⟨rfl, hb1⟩
    have hbw1 := nx hb0 hb1
    replace hx0 := heap_keep hb1 hx0
    replace hx1 := heap_keep hb1 hx1
    clear hx0a hx0b hx0c hx0f hx0g
    obtain ⟨hx0a, hx0b, hx0c⟩ := two_facts hx0
    obtain ⟨hx0f, hx0g⟩ := two_frozen hx0
    clear hx1a hx1b hx1c hx1f hx1g
    obtain ⟨hx1a, hx1b, hx1c⟩ := two_facts hx1
    obtain ⟨hx1f, hx1g⟩ := two_frozen hx1
    clear hb1 hb0
    go_wp2_with fail
    obtain ⟨q1, q2⟩ := two_cells (set_two (.string q.1.str) (.string q.2.str) hx1)
    refine bodyPost_ret (v := .tuple #[.agg #[.string q.1.str, .string q.2.str], .bool true]) (by simp [q1, q2, results, Try.results58, go_sem]) rfl ⟨rfl, ?_⟩
    exact (hbw1.setCell (by show w.heap.size ≤ w.heap.size + 1; omega) _).setCell (by show w.heap.size ≤ w.heap.size + 1; omega) _

end Go.Proofs.Yteflpaebckichaa

/-! Unit -/
namespace Go.Proofs.Yteflpaebckichaa
open Go.RowKit

/-- The pair of two leaves. -/
def unitP : Pr := (.lf, .lf)
/-- The product of so many, if none on the way is too great. -/
def pwN (b : Pr) : Nat → Option Pr
  | 0 => some unitP
  | k + 1 => (pwN b k).bind fun o => limP (mulP o b)
def powP (p : Pr) (k : Int) : Option Pr := if -10 ≤ k ∧ k ≤ 10 then (if k < 0 then pwN (invP p) (-k).toNat else pwN p k.toNat) else none

theorem limP_some {p q : Pr} (h : limP p = some q) : q = p ∧ p.1.carets ≤ 8 := by
  unfold limP at h
  split at h
  · next hc => injection h with h; exact ⟨h.symm, hc⟩
  · simp at h
theorem pwN_ok {b : Pr} (hb : okP b) : ∀ {k : Nat} {o : Pr}, pwN b k = some o → okP o ∧ o.1.carets ≤ 8 := by
  intro k
  induction k with
  | zero => intro o h; injection h with h; subst h; exact ⟨rfl, by decide⟩
  | succ k ih =>
    intro o h
    rw [pwN] at h
    cases h1 : pwN b k with
    | none => rw [h1] at h; simp at h
    | some q =>
      rw [h1] at h
      obtain ⟨e, hc⟩ := limP_some (show limP (mulP q b) = some o from h)
      rw [e]
      exact ⟨mulP_ok (ih h1).1 hb, hc⟩
theorem pwN_none {b : Pr} {k : Nat} (h : pwN b k = none) : ∀ j, k ≤ j → pwN b j = none := by
  intro j hj
  induction j with
  | zero => have : k = 0 := by omega
            subst this; exact h
  | succ j ih =>
    by_cases e : k = j + 1
    · rw [← e]; exact h
    · rw [pwN, ih (by omega)]; rfl

theorem prUnit_any (w : World) : Calls Try.prog 37 #[] w (Gives (.agg #[.string Tr.lf.str, .string Tr.lf.str]) w) := by
  go_enter Try.func37, Try.ntmps37
  go_wp2
  refine bodyPost_ret (v := .agg #[.string Tr.lf.str, .string Tr.lf.str]) (by simp [results, Try.results37, go_sem]; rfl) rfl ⟨rfl, ?_⟩
  exact nxAlloc (Below.refl _ _) _

theorem identity_any (w : World) : Calls Try.prog 45 #[] w (Gives (.agg #[.string Tr.lf.str, .string Tr.lf.str]) w) := by
  go_enter Try.func45, Try.ntmps45
  go_wp2
  refine bodyPost_ret (v := .agg #[.string Tr.lf.str, .string Tr.lf.str]) (by simp [results, Try.results45, go_sem]; rfl) rfl ⟨rfl, ?_⟩
  exact nxAlloc (Below.refl _ _) _
end Go.Proofs.Yteflpaebckichaa

/-! Pw -/
namespace Go.Proofs.Yteflpaebckichaa
open Go.RowKit

theorem genP_ok (i : Nat) : okP (genP i) ∧ (genP i).1.carets = i + 2 := by
  have h1 := graft_carets (rcomb i) (lcomb 2) i (by omega) (by simp [Tr.leaves, rcomb_carets]; omega)
  rw [rcomb_carets, lcomb_carets] at h1
  refine ⟨?_, h1⟩
  show (genP i).1.carets = (genP i).2.carets
  show ((rcomb i).graft i (lcomb 2)).carets = (rcomb (i + 2)).carets
  rw [h1, rcomb_carets]
/-- The pair of a letter. -/
def ltP (x : Int) : Pr := if x < 0 then invP (genP (num x).toNat) else genP (num x).toNat
theorem ltP_ok (x : Int) : okP (ltP x) ∧ (ltP x).1.carets = (num x).toNat + 2 := by
  have h := genP_ok (num x).toNat
  unfold ltP
  split
  · exact ⟨h.1.symm, by show (genP (num x).toNat).2.carets = _; rw [← h.2]; exact h.1.symm⟩
  · exact h

set_option maxHeartbeats 1000000 in
theorem wdLetter_any (x : Int) (w : World) (h0 : x ≠ 0) (h1 : -7 ≤ x) (h2 : x ≤ 7) :
    Calls Try.prog 41 #[.int .i64 x] w (Gives (.agg #[.string (ltP x).1.str, .string (ltP x).2.str]) w) := by
  by_cases hx : x < 0
  · obtain ⟨n, rfl⟩ : ∃ n : Nat, x = -((n : Int) + 1) := ⟨(-x - 1).toNat, by omega⟩
    have hn : (num (-((n : Int) + 1))).toNat = n := by unfold num; rw [if_pos hx]; omega
    unfold ltP
    rw [if_pos hx, hn]
    have hG := fun w => prGenerator_any n w (by omega)
    have hI := fun w => prInverse_any (genP n).1.str (genP n).2.str w
    have hd : (-((n : Int) + 1)) < 0 := hx
    have e1 : -(-((n : Int) + 1)) - 1 = (n : Int) := by omega
    show Calls _ _ _ _ (Gives (.agg #[.string (genP n).2.str, .string (genP n).1.str]) w)
    generalize (genP n).1.str = A at *
    generalize (genP n).2.str = B at *
    clear h0 hn hx
    go_enter Try.func41, Try.ntmps41
    go_wp2_with fail
    have hx0 := heap_alloc_at w (.cells #[.string ⟨#[]⟩, .string ⟨#[]⟩] 27 (0, 0))
    have hb0 := nxAlloc (Below.refl w.heap.size w) (.cells #[.string ⟨#[]⟩, .string ⟨#[]⟩] 27 (0, 0))
    generalize w.alloc (.cells #[.string ⟨#[]⟩, .string ⟨#[]⟩] 27 (0, 0)) = w0 at *
    obtain ⟨ka, kb, kc⟩ := two_facts hx0
    obtain ⟨kf, kg⟩ := two_frozen hx0
    refine (hG _).mono ?_; rintro e w1 ⟨rfl, hb1⟩
    replace hx0 := heap_keep hb1 hx0
    have hbw1 := nx hb0 hb1
    clear ka kb kc kf kg hb0 hb1 hG
    go_wp2_with fail
    refine (hI _).mono ?_; rintro e w2 ⟨rfl, hb2⟩
    replace hx0 := heap_keep hb2 hx0
    have hbw2 := nx hbw1 hb2
    obtain ⟨ka, kb, kc⟩ := two_facts hx0
    obtain ⟨kf, kg⟩ := two_frozen hx0
    clear hb2 hbw1 hI
    go_wp2_with fail
    obtain ⟨q1, q2⟩ := two_cells (set_two (.string B) (.string A) hx0)
    refine bodyPost_ret (v := .agg #[.string B, .string A]) (by simp [q1, q2, results, Try.results41, go_sem]) rfl ⟨rfl, ?_⟩
    exact (hbw2.setCell (Nat.le_refl _) _).setCell (Nat.le_refl _) _
  · obtain ⟨n, rfl⟩ : ∃ n : Nat, x = (n : Int) + 1 := ⟨(x - 1).toNat, by omega⟩
    have hn : (num ((n : Int) + 1)).toNat = n := by unfold num; rw [if_neg hx]; omega
    unfold ltP
    rw [if_neg hx, hn]
    have hG := fun w => prGenerator_any n w (by omega)
    have hd : (0 : Int) ≤ (n : Int) + 1 := by omega
    have e1 : (n : Int) + 1 - 1 = (n : Int) := by omega
    generalize (genP n).1.str = A at *
    generalize (genP n).2.str = B at *
    clear h0 hn hx
    go_enter Try.func41, Try.ntmps41
    go_wp2_with fail
    have hx0 := heap_alloc_at w (.cells #[.string ⟨#[]⟩, .string ⟨#[]⟩] 27 (0, 0))
    have hb0 := nxAlloc (Below.refl w.heap.size w) (.cells #[.string ⟨#[]⟩, .string ⟨#[]⟩] 27 (0, 0))
    generalize w.alloc (.cells #[.string ⟨#[]⟩, .string ⟨#[]⟩] 27 (0, 0)) = w0 at *
    refine (hG _).mono ?_; rintro e w1 ⟨rfl, hb1⟩
    replace hx0 := heap_keep hb1 hx0
    have hbw1 := nx hb0 hb1
    obtain ⟨ka, kb, kc⟩ := two_facts hx0
    obtain ⟨kf, kg⟩ := two_frozen hx0
    clear hb0 hb1 hG
    go_wp2_with fail
    obtain ⟨q1, q2⟩ := two_cells (set_two (.string A) (.string B) hx0)
    refine bodyPost_ret (v := .agg #[.string A, .string B]) (by simp [q1, q2, results, Try.results41, go_sem]) rfl ⟨rfl, ?_⟩
    exact (hbw1.setCell (Nat.le_refl _) _).setCell (Nat.le_refl _) _

/-- The answer of the program's letter. -/
def ltO (x : Int) : Option Pr := if num x ≤ 6 then some (ltP x) else none
set_option maxRecDepth 100000 in
set_option maxHeartbeats 2000000 in
theorem pairOfLetter_any (x : Int) (w : World) (h0 : x ≠ 0) (h1 : -21 ≤ x) (h2 : x ≤ 21) :
    Calls Try.prog 81 #[.int .i64 x] w (Gives (ansPr (ltO x)) w) := by
  have hN := fun w => numberOf_any x w (by omega) (by omega)
  have hn1 : 0 ≤ num x ∧ num x ≤ 20 := by unfold num; split <;> omega
  have hG := fun w => implGeneratorPair_any (num x) w (by omega) (by omega)
  have hans : ansPr (genO (num x)) = .tuple #[.agg #[.string (pS1 (genO (num x))), .string (pS2 (genO (num x)))], .bool (genO (num x)).isSome] := rfl
  simp only [hans] at hG
  have hfin : ansPr (ltO x) = if x < 0 then .tuple #[.agg #[.string (pS2 (genO (num x))), .string (pS1 (genO (num x)))], .bool (genO (num x)).isSome] else .tuple #[.agg #[.string (pS1 (genO (num x))), .string (pS2 (genO (num x)))], .bool (genO (num x)).isSome] := by
    by_cases h6 : num x ≤ 6
    · have e1 : ltO x = some (ltP x) := by unfold ltO; rw [if_pos h6]
      have e2 : genO (num x) = some (genP (num x).toNat) := by unfold genO; rw [if_pos ⟨hn1.1, h6⟩]
      rw [e1, e2]
      unfold ltP
      by_cases hx : x < 0
      · rw [if_pos hx, if_pos hx]; rfl
      · rw [if_neg hx, if_neg hx]; rfl
    · have e1 : ltO x = none := by unfold ltO; rw [if_neg h6]
      have e2 : genO (num x) = none := by unfold genO; rw [if_neg (fun h => h6 h.2)]
      rw [e1, e2]
      split <;> rfl
  rw [hfin]
  have hI := fun w => inverse_any (pS1 (genO (num x))) (pS2 (genO (num x))) w
  generalize pS1 (genO (num x)) = A at *
  generalize pS2 (genO (num x)) = B at *
  generalize (genO (num x)).isSome = ok at *
  clear hans hfin h0
  by_cases hx : x < 0
  · rw [if_pos hx]
    go_enter Try.func81, Try.ntmps81
    go_wp2_with fail
    have hx0 := heap_alloc_at w (.cells #[.string ⟨#[]⟩, .string ⟨#[]⟩] 27 (0, 0))
    have hb0 := nxAlloc (Below.refl w.heap.size w) (.cells #[.string ⟨#[]⟩, .string ⟨#[]⟩] 27 (0, 0))
    generalize w.alloc (.cells #[.string ⟨#[]⟩, .string ⟨#[]⟩] 27 (0, 0)) = w0 at *
    refine (hN _).mono ?_; rintro e w1 ⟨rfl, rfl⟩
    go_wp2_with fail
    refine (hG _).mono ?_; rintro e w1 ⟨rfl, hb1⟩
    replace hx0 := heap_keep hb1 hx0
    have hbw1 := nx hb0 hb1
    have hs1 : w.heap.size < w1.heap.size := lt_of_block hx0
    clear hb0 hb1 hG hN
    go_wp2_with fail
    have hy0 := heap_alloc_at w1 (.cells #[.string A, .string B] 27 (0, 0))
    replace hx0 := heap_keep (nxAlloc (Below.refl w1.heap.size w1) (.cells #[.string A, .string B] 27 (0, 0))) hx0
    have hbw2 := nxAlloc hbw1 (.cells #[.string A, .string B] 27 (0, 0))
    generalize w1.alloc (.cells #[.string A, .string B] 27 (0, 0)) = w2 at *
    obtain ⟨ka, kb, kc⟩ := two_facts hx0
    obtain ⟨kf, kg⟩ := two_frozen hx0
    obtain ⟨ya, yb, yc⟩ := two_facts hy0
    obtain ⟨yf, yg⟩ := two_frozen hy0
    clear hbw1
    go_wp2_with fail
    refine (hI _).mono ?_; rintro e w3 ⟨rfl, hb3⟩
    replace hx0 := heap_keep hb3 hx0
    replace hy0 := heap_keep hb3 hy0
    have hbw3 := nx hbw2 hb3
    clear ka kb kc kf kg ya yb yc yf yg hb3 hbw2 hI
    obtain ⟨ka, kb, kc⟩ := two_facts hx0
    obtain ⟨kf, kg⟩ := two_frozen hx0
    obtain ⟨yf, yg⟩ := two_frozen hy0
    obtain ⟨ya, yb, yc⟩ := two_facts hy0
    have hz0 := set_two (.string B) (.string A) hy0
    have hx1 : ((w3.setCell ⟨w1.heap.size, 0, none⟩ (.string B)).setCell ⟨w1.heap.size, 1, none⟩ (.string A)).heap[w.heap.size]? = some (.cells #[.string ⟨#[]⟩, .string ⟨#[]⟩] 27 (0, 0)) := by
      rw [Below.heap_setCell _ _ _ _ (by show w.heap.size ≠ w1.heap.size; omega), Below.heap_setCell _ _ _ _ (by show w.heap.size ≠ w1.heap.size; omega)]; exact hx0
    have hbw4 : Below w.heap.size w ((w3.setCell ⟨w1.heap.size, 0, none⟩ (.string B)).setCell ⟨w1.heap.size, 1, none⟩ (.string A)) := (hbw3.setCell (by show w.heap.size ≤ w1.heap.size; omega) _).setCell (by show w.heap.size ≤ w1.heap.size; omega) _
    have HZ := Lib.hid hz0
    have HX1 := Lib.hid hx1
    have HB4 := Lib.hid hbw4
    obtain ⟨za, zb, zc⟩ := two_facts hz0
    clear hz0 hx1 hbw4
    go_wp2_with fail
    obtain ⟨q1, q2⟩ := two_cells (set_two (.string B) (.string A) HX1.out)
    refine bodyPost_ret (v := .tuple #[.agg #[.string B, .string A], .bool ok]) (by simp [q1, q2, results, Try.results81, go_sem]) rfl ⟨rfl, ?_⟩
    exact (HB4.out.setCell (Nat.le_refl _) _).setCell (Nat.le_refl _) _
  · rw [if_neg hx]
    go_enter Try.func81, Try.ntmps81
    go_wp2_with fail
    have hx0 := heap_alloc_at w (.cells #[.string ⟨#[]⟩, .string ⟨#[]⟩] 27 (0, 0))
    have hb0 := nxAlloc (Below.refl w.heap.size w) (.cells #[.string ⟨#[]⟩, .string ⟨#[]⟩] 27 (0, 0))
    generalize w.alloc (.cells #[.string ⟨#[]⟩, .string ⟨#[]⟩] 27 (0, 0)) = w0 at *
    refine (hN _).mono ?_; rintro e w1 ⟨rfl, rfl⟩
    go_wp2_with fail
    refine (hG _).mono ?_; rintro e w1 ⟨rfl, hb1⟩
    replace hx0 := heap_keep hb1 hx0
    have hbw1 := nx hb0 hb1
    have hs1 : w.heap.size < w1.heap.size := lt_of_block hx0
    clear hb0 hb1 hG hN
    obtain ⟨ka, kb, kc⟩ := two_facts hx0
    obtain ⟨kf, kg⟩ := two_frozen hx0
    go_wp2_with fail
    have hx1 := heap_keep (nxAlloc (Below.refl _ _) (.cells #[.string A, .string B] 27 (0, 0))) (set_two (.string A) (.string B) hx0)
    have hbw2 := nxAlloc ((hbw1.setCell (p := ⟨w.heap.size, 0, none⟩) (Nat.le_refl _) (.string A)).setCell (p := ⟨w.heap.size, 1, none⟩) (Nat.le_refl _) (.string B)) (.cells #[.string A, .string B] 27 (0, 0))
    obtain ⟨q1, q2⟩ := two_cells hx1
    refine bodyPost_ret (v := .tuple #[.agg #[.string A, .string B], .bool ok]) (by simp [q1, q2, results, Try.results81, go_sem]) rfl ⟨rfl, ?_⟩
    exact hbw2
end Go.Proofs.Yteflpaebckichaa

/-! KiP -/
namespace Go.Proofs.Yteflpaebckichaa

def sL0 : ByteArray := ⟨#[76, 48]⟩
def sLL : ByteArray := ⟨#[76, 76]⟩
def sR0 : ByteArray := ⟨#[82, 48]⟩
def sRI : ByteArray := ⟨#[82, 73]⟩
def sRN : ByteArray := ⟨#[82, 78]⟩
def sI0 : ByteArray := ⟨#[73, 48]⟩
def sIR : ByteArray := ⟨#[73, 82]⟩
def sR : ByteArray := ⟨#[82]⟩

/-- The kind of a caret on neither side. -/
def inK (b : Bool) : ByteArray := if b then sI0 else sIR
namespace Tr
def inn : Tr → List ByteArray
  | lf => []
  | nd l r => l.inn ++ inK r.isLf :: r.inn
def lft : Tr → List ByteArray
  | lf => []
  | nd l r => l.lft ++ sLL :: r.inn
def rgt : Tr → List ByteArray
  | lf => []
  | nd l r => l.inn ++ sR :: r.rgt
def raw : Tr → List ByteArray
  | lf => []
  | nd l r => l.lft ++ sLL :: r.rgt
end Tr

/-- Whether a kind is that of a caret on neither side. -/
def isNe (s : ByteArray) : Bool := s = sI0 || s = sIR
/-- The kinds on the right side told, from behind: with whether all are on it. -/
def finF : List ByteArray → List ByteArray × Bool
  | [] => ([], true)
  | x :: r =>
    if x = sR then
      if (finF r).2 then (sR0 :: (finF r).1, true)
      else if isNe ((finF r).1.headD ⟨#[]⟩) then (sRI :: (finF r).1, false)
      else (sRN :: (finF r).1, false)
    else (x :: (finF r).1, false)
/-- The first caret is L0. -/
def firstK : List ByteArray → List ByteArray
  | [] => []
  | _ :: r => sL0 :: r
def Tr.kinds (t : Tr) : List ByteArray := (finF (firstK t.raw)).1

theorem finF_length (l : List ByteArray) : (finF l).1.length = l.length := by
  induction l with
  | nil => rfl
  | cons x r ih =>
    rw [finF]
    split
    · split
      · simp [ih]
      · split <;> simp [ih]
    · simp [ih]
theorem firstK_length (l : List ByteArray) : (firstK l).length = l.length := by cases l <;> rfl
theorem inn_length (t : Tr) : t.inn.length = t.carets := by
  induction t with
  | lf => rfl
  | nd l r ihl ihr => simp [Tr.inn, Tr.carets, ihl, ihr]; omega
theorem lft_length (t : Tr) : t.lft.length = t.carets := by
  induction t with
  | lf => rfl
  | nd l r ihl ihr => simp [Tr.lft, Tr.carets, ihl, inn_length]; omega
theorem rgt_length (t : Tr) : t.rgt.length = t.carets := by
  induction t with
  | lf => rfl
  | nd l r ihl ihr => simp [Tr.rgt, Tr.carets, ihr, inn_length]; omega
theorem raw_length (t : Tr) : t.raw.length = t.carets := by
  cases t with
  | lf => rfl
  | nd l r => simp [Tr.raw, Tr.carets, lft_length, rgt_length]; omega
theorem kinds_length (t : Tr) : t.kinds.length = t.carets := by
  unfold Tr.kinds
  rw [finF_length, firstK_length, raw_length]

/-- One step of the loop from behind. -/
theorem finF_step (x : ByteArray) (r : List ByteArray) : finF (x :: r) = if x = sR then
      if (finF r).2 then (sR0 :: (finF r).1, true)
      else if isNe ((finF r).1.headD ⟨#[]⟩) then (sRI :: (finF r).1, false)
      else (sRN :: (finF r).1, false)
    else (x :: (finF r).1, false) := rfl
theorem finF_late (l : List ByteArray) (h : (finF l).2 = false) : l ≠ [] := by
  intro e
  rw [e] at h
  simp [finF] at h

/-- The carets of a tree: their addresses, and whether their right sides are leaves. -/
def Tr.cars : Tr → ByteArray → List (ByteArray × Bool)
  | .lf, _ => []
  | .nd l r, here => l.cars (here ++ ⟨#[48]⟩) ++ (here, r.isLf) :: r.cars (here ++ ⟨#[49]⟩)
theorem cars_length (t : Tr) : ∀ here, (t.cars here).length = t.carets := by
  induction t with
  | lf => intro here; rfl
  | nd l r ihl ihr => intro here; simp [Tr.cars, Tr.carets, ihl, ihr]; omega
theorem cars_size (t : Tr) : ∀ here, ∀ x ∈ t.cars here, x.1.size ≤ here.size + t.carets := by
  induction t with
  | lf => intro here x hx; simp [Tr.cars] at hx
  | nd l r ihl ihr =>
    intro here x hx
    simp only [Tr.cars, List.mem_append, List.mem_cons] at hx
    have e : (Tr.nd l r).carets = l.carets + r.carets + 1 := rfl
    have s0 : (here ++ (⟨#[48]⟩ : ByteArray)).size = here.size + 1 := ByteArray.size_append
    have s1 : (here ++ (⟨#[49]⟩ : ByteArray)).size = here.size + 1 := ByteArray.size_append
    rcases hx with hx | rfl | hx
    · have := ihl _ x hx; omega
    · show here.size ≤ _; omega
    · have := ihr _ x hx; omega
def hasB (s : ByteArray) (c : UInt8) : Bool := s.data.toList.contains c
/-- The kind of a caret by its address: sR on the right side. -/
def codeK (x : ByteArray × Bool) : ByteArray :=
  if hasB x.1 49 = false then sLL else if hasB x.1 48 = false then sR else inK x.2
theorem hasB_append (a b : ByteArray) (c : UInt8) : hasB (a ++ b) c = (hasB a c || hasB b c) := by
  have e : (a ++ b).data.toList = a.data.toList ++ b.data.toList := by simp [ByteArray.data_append]
  unfold hasB
  rw [e]
  induction a.data.toList with
  | nil => simp
  | cons x l ih => simp only [List.cons_append, List.contains_cons, ih, Bool.or_assoc]
theorem cars_inn (t : Tr) : ∀ here, hasB here 48 = true → hasB here 49 = true → (t.cars here).map codeK = t.inn := by
  induction t with
  | lf => intro here h k; rfl
  | nd l r ihl ihr =>
    intro here h k
    simp only [Tr.cars, Tr.inn, List.map_append, List.map_cons]
    rw [ihl _ (by rw [hasB_append, h]; rfl) (by rw [hasB_append, k]; rfl), ihr _ (by rw [hasB_append, h]; rfl) (by rw [hasB_append, k]; rfl)]
    congr 2
    simp [codeK, h, k]
theorem cars_lft (t : Tr) : ∀ here, hasB here 48 = true → hasB here 49 = false → (t.cars here).map codeK = t.lft := by
  induction t with
  | lf => intro here h k; rfl
  | nd l r ihl ihr =>
    intro here h k
    simp only [Tr.cars, Tr.lft, List.map_append, List.map_cons]
    rw [ihl _ (by rw [hasB_append, h]; rfl) (by rw [hasB_append, k]; rfl), cars_inn r _ (by rw [hasB_append, h]; rfl) (by rw [hasB_append, k]; rfl)]
    congr 2
    simp [codeK, k]
theorem cars_rgt (t : Tr) : ∀ here, hasB here 48 = false → hasB here 49 = true → (t.cars here).map codeK = t.rgt := by
  induction t with
  | lf => intro here h k; rfl
  | nd l r ihl ihr =>
    intro here h k
    simp only [Tr.cars, Tr.rgt, List.map_append, List.map_cons]
    rw [cars_inn l _ (by rw [hasB_append, h]; rfl) (by rw [hasB_append, k]; rfl), ihr _ (by rw [hasB_append, h]; rfl) (by rw [hasB_append, k]; rfl)]
    congr 2
    simp [codeK, h, k]
theorem cars_raw (t : Tr) : (t.cars ⟨#[]⟩).map codeK = t.raw := by
  cases t with
  | lf => rfl
  | nd l r =>
    simp only [Tr.cars, Tr.raw, List.map_append, List.map_cons]
    rw [cars_lft l _ rfl rfl, cars_rgt r _ rfl rfl]
    rfl

/-- The kind of a caret on the right side, by those behind it. -/
def korK (later : List ByteArray) : ByteArray :=
  if later.any isNe = false then sR0 else if isNe (later.headD ⟨#[]⟩) then sRI else sRN
def kindK (i : Nat) (x : ByteArray) (later : List ByteArray) : ByteArray :=
  if i = 0 then sL0 else if x = sLL then sLL else if x = sR then korK later else x
/-- The kinds from a place on. -/
def kindsFrom : Nat → List ByteArray → List ByteArray
  | _, [] => []
  | i, x :: r => kindK i x r :: kindsFrom (i + 1) r

theorem isNe_LL : isNe sLL = false := by decide
theorem isNe_R : isNe sR = false := by decide
/-- Codes: behind one on the right side none is on the left side. -/
def okC : List ByteArray → Prop
  | [] => True
  | x :: r => (x = sLL ∨ x = sR ∨ isNe x = true) ∧ (x = sR → sLL ∉ r) ∧ okC r
theorem okC_any {r : List ByteArray} (h : okC r) (k : sLL ∉ r) : (finF r).2 = !(r.any isNe) := by
  induction r with
  | nil => rfl
  | cons x r ih =>
    obtain ⟨h1, _, h3⟩ := h
    have hx : x ≠ sLL := fun e => k (by rw [e]; exact List.mem_cons_self)
    have kr : sLL ∉ r := fun e => k (List.mem_cons_of_mem _ e)
    have := ih h3 kr
    rw [finF_step]
    rcases h1 with h1 | h1 | h1
    · exact absurd h1 hx
    · rw [if_pos h1, List.any_cons, h1, isNe_R, Bool.false_or]
      cases hf : (finF r).2 with
      | true => rw [hf] at this; simp [← this]
      | false =>
        rw [hf] at this
        simp only [Bool.false_eq_true, if_false]
        split <;> exact this
    · have : x ≠ sR := by intro e; rw [e, isNe_R] at h1; cases h1
      rw [if_neg this]
      simp [h1]
theorem headD_finF (r : List ByteArray) (h : okC r) : isNe ((finF r).1.headD ⟨#[]⟩) = isNe (r.headD ⟨#[]⟩) := by
  cases r with
  | nil => rfl
  | cons x r =>
    rw [finF_step]
    by_cases hx : x = sR
    · rw [if_pos hx]
      show _ = isNe x
      rw [hx, isNe_R]
      split
      · rfl
      · split <;> rfl
    · rw [if_neg hx]
      rfl
theorem finF_kinds (r : List ByteArray) (h : okC r) : ∀ i, 0 < i → (finF r).1 = kindsFrom i r := by
  induction r with
  | nil => intro i hi; rfl
  | cons x r ih =>
    intro i hi
    have hh := h
    obtain ⟨h1, h2, h3⟩ := h
    rw [finF_step, kindsFrom, kindK, if_neg (show ¬ i = 0 by omega), ← ih h3 (i + 1) (by omega)]
    by_cases hx : x = sR
    · have hx2 : x ≠ sLL := by rw [hx]; decide
      have ha := okC_any h3 (h2 hx)
      have hd := headD_finF r h3
      rw [if_pos hx, if_pos hx, if_neg hx2]
      unfold korK
      rw [hd, ha]
      cases r.any isNe with
      | false => rfl
      | true =>
        simp only [Bool.not_true, Bool.false_eq_true, if_false, reduceCtorEq]
        split <;> rfl
    · rw [if_neg hx, if_neg hx]
      split
      · next hl => rw [hl]
      · rfl
theorem inK_ne (b : Bool) : isNe (inK b) = true := by cases b <;> decide
theorem inn_all (t : Tr) : ∀ x ∈ t.inn, isNe x = true := by
  induction t with
  | lf => intro x hx; simp [Tr.inn] at hx
  | nd l r ihl ihr =>
    intro x hx
    simp only [Tr.inn, List.mem_append, List.mem_cons] at hx
    rcases hx with hx | rfl | hx
    · exact ihl x hx
    · exact inK_ne _
    · exact ihr x hx
theorem rgt_all (t : Tr) : ∀ x ∈ t.rgt, x = sR ∨ isNe x = true := by
  induction t with
  | lf => intro x hx; simp [Tr.rgt] at hx
  | nd l r ihl ihr =>
    intro x hx
    simp only [Tr.rgt, List.mem_append, List.mem_cons] at hx
    rcases hx with hx | rfl | hx
    · exact .inr (inn_all l x hx)
    · exact .inl rfl
    · exact ihr x hx
theorem lft_all (t : Tr) : ∀ x ∈ t.lft, x = sLL ∨ isNe x = true := by
  induction t with
  | lf => intro x hx; simp [Tr.lft] at hx
  | nd l r ihl ihr =>
    intro x hx
    simp only [Tr.lft, List.mem_append, List.mem_cons] at hx
    rcases hx with hx | rfl | hx
    · exact ihl x hx
    · exact .inl rfl
    · exact .inr (inn_all r x hx)
theorem okC_rgt (l : List ByteArray) (h : ∀ x ∈ l, x = sR ∨ isNe x = true) : okC l := by
  induction l with
  | nil => trivial
  | cons x r ih =>
    refine ⟨.inr (h x List.mem_cons_self), fun _ hm => ?_, ih fun y hy => h y (List.mem_cons_of_mem _ hy)⟩
    rcases h _ (List.mem_cons_of_mem _ hm) with e | e
    · exact absurd e (by decide)
    · rw [isNe_LL] at e; cases e
theorem okC_front (l m : List ByteArray) (h : ∀ x ∈ l, x = sLL ∨ isNe x = true) (hm : okC m) : okC (l ++ m) := by
  induction l with
  | nil => exact hm
  | cons x r ih =>
    refine ⟨?_, fun e => ?_, ih fun y hy => h y (List.mem_cons_of_mem _ hy)⟩
    · rcases h x List.mem_cons_self with e | e
      · exact .inl e
      · exact .inr (.inr e)
    · rcases h x List.mem_cons_self with k | k
      · rw [e] at k; exact absurd k (by decide)
      · rw [e, isNe_R] at k; cases k
theorem okC_raw (t : Tr) : okC t.raw := by
  cases t with
  | lf => trivial
  | nd l r =>
    exact okC_front _ _ (lft_all l) ⟨.inl rfl, fun e => absurd e (by decide), okC_rgt _ (rgt_all r)⟩
theorem kinds_from (t : Tr) : t.kinds = kindsFrom 0 t.raw := by
  have h := okC_raw t
  unfold Tr.kinds
  cases hr : t.raw with
  | nil => rfl
  | cons x r =>
    rw [hr] at h
    show (finF (sL0 :: r)).1 = _
    rw [finF_step, if_neg (by decide), kindsFrom, kindK, if_pos rfl, finF_kinds r h.2.2 1 (by omega)]
end Go.Proofs.Yteflpaebckichaa

/-! LnP -/
namespace Go.Proofs.Yteflpaebckichaa

/-- The row of a kind in the table, or -1. -/
def rowK (s : ByteArray) : Int := if s = sR0 then 0 else if s = sRN then 1 else if s = sRI then 2 else if s = sLL then 3 else if s = sI0 then 4 else if s = sIR then 5 else -1
/-- The table, row by row. -/
def tabK : List Int := [0, 2, 2, 1, 1, 3, 2, 2, 2, 1, 1, 3, 2, 2, 2, 1, 3, 3, 1, 1, 1, 2, 2, 2, 1, 1, 3, 2, 2, 4, 3, 3, 3, 2, 4, 4]
def lenO (a b : ByteArray) : Option Int :=
  if a = sL0 ∧ b = sL0 then some 0
  else if rowK a < 0 ∨ rowK b < 0 then none
  else some (tabK.getD ((rowK a).toNat * 6 + (rowK b).toNat) 0)
def lenV (a b : ByteArray) : Int := (lenO a b).getD 0
/-- The sum over the first j carets. -/
def lenU (l m : List ByteArray) : Nat → Int
  | 0 => 0
  | j + 1 => lenU l m j + lenV (l.getD j ⟨#[]⟩) (m.getD j ⟨#[]⟩)
def lenP (p : Pr) : Int := lenU p.1.kinds p.2.kinds p.1.kinds.length

theorem rowK_range (s : ByteArray) : -1 ≤ rowK s ∧ rowK s ≤ 5 := by
  unfold rowK
  repeat' split
  all_goals omega
theorem tabK_range (i : Nat) : 0 ≤ tabK.getD i 0 ∧ tabK.getD i 0 ≤ 4 := by
  by_cases h : i < 36
  · have : ∀ i : Fin 36, 0 ≤ tabK.getD i.1 0 ∧ tabK.getD i.1 0 ≤ 4 := by decide
    exact this ⟨i, h⟩
  · rw [List.getD_eq_getElem?_getD, List.getElem?_eq_none (by show 36 ≤ i; omega)]
    simp
theorem lenO_range {a b : ByteArray} {n : Int} (h : lenO a b = some n) : 0 ≤ n ∧ n ≤ 4 := by
  unfold lenO at h
  split at h
  · cases h; omega
  · split at h
    · cases h
    · cases h; exact tabK_range _
theorem lenV_range (a b : ByteArray) : 0 ≤ lenV a b ∧ lenV a b ≤ 4 := by
  unfold lenV
  cases h : lenO a b with
  | none => simp
  | some n => exact lenO_range h
theorem lenU_range (l m : List ByteArray) : ∀ j, 0 ≤ lenU l m j ∧ lenU l m j ≤ 4 * j := by
  intro j
  induction j with
  | zero => simp [lenU]
  | succ j ih => have := lenV_range (l.getD j ⟨#[]⟩) (m.getD j ⟨#[]⟩); rw [lenU]; omega
theorem lenP_range (p : Pr) : 0 ≤ lenP p ∧ lenP p ≤ 4 * p.1.carets := by
  have := lenU_range p.1.kinds p.2.kinds p.1.kinds.length
  rw [kinds_length] at this
  unfold lenP
  rw [kinds_length]
  exact this
/-- The index in the list of all kinds but L0. -/
theorem rowK_at (s : ByteArray) : (rowK s < 0 → ∀ k ∈ [sR0, sRN, sRI, sLL, sI0, sIR], k ≠ s) ∧ (0 ≤ rowK s → [sR0, sRN, sRI, sLL, sI0, sIR].getD (rowK s).toNat ⟨#[]⟩ = s ∧ ∀ j, j < (rowK s).toNat → [sR0, sRN, sRI, sLL, sI0, sIR].getD j ⟨#[]⟩ ≠ s) := by
  by_cases h0 : s = sR0
  · subst h0
    exact ⟨by decide, fun _ => ⟨by decide, by decide⟩⟩
  by_cases h1 : s = sRN
  · subst h1
    exact ⟨by decide, fun _ => ⟨by decide, by decide⟩⟩
  by_cases h2 : s = sRI
  · subst h2
    exact ⟨by decide, fun _ => ⟨by decide, by decide⟩⟩
  by_cases h3 : s = sLL
  · subst h3
    exact ⟨by decide, fun _ => ⟨by decide, by decide⟩⟩
  by_cases h4 : s = sI0
  · subst h4
    exact ⟨by decide, fun _ => ⟨by decide, by decide⟩⟩
  by_cases h5 : s = sIR
  · subst h5
    exact ⟨by decide, fun _ => ⟨by decide, by decide⟩⟩
  have hr : rowK s = -1 := by simp [rowK, h0, h1, h2, h3, h4, h5]
  rw [hr]
  refine ⟨fun _ k hk e => ?_, fun h => absurd h (by omega)⟩
  simp at hk
  rcases hk with rfl | rfl | rfl | rfl | rfl | rfl
  · exact h0 e.symm
  · exact h1 e.symm
  · exact h2 e.symm
  · exact h3 e.symm
  · exact h4 e.symm
  · exact h5 e.symm
end Go.Proofs.Yteflpaebckichaa

/-! Lt1 -/
namespace Go.Proofs.Yteflpaebckichaa
open Go.RowKit

def fourL : List Int := [1, -1, 2, -2]
theorem fourL_get (k : Nat) (h : k < 4) : fourL.getD k 0 ≠ 0 ∧ -2 ≤ fourL.getD k 0 ∧ fourL.getD k 0 ≤ 2 := by
  match k, h with
  | 0, _ => decide
  | 1, _ => decide
  | 2, _ => decide
  | 3, _ => decide
theorem ltP_small {x : Int} (_h0 : x ≠ 0) (h1 : -2 ≤ x) (h2 : x ≤ 2) : okP (ltP x) ∧ (ltP x).1.carets ≤ 3 ∧ (ltP x).2.carets ≤ 3 := by
  have h := ltP_ok x
  have hn : (num x).toNat ≤ 1 := by unfold num; split <;> omega
  have hk := h.1
  unfold okP at hk
  exact ⟨h.1, by omega, by omega⟩
/-- The four letters in a block of their own. -/
def GivesFour (w : World) (e : Ending) (w' : World) : Prop :=
  e = .returned (.slice (some ⟨w.heap.size, 0, none⟩) 4 4) ∧ (∀ k, k < 4 → w'.cell? ⟨w.heap.size, k, none⟩ = some (.int .i64 (fourL.getD k 0))) ∧ w.heap.size < w'.heap.size ∧ Below w.heap.size w w'
theorem four_cells (w : World) (t : TypeId) (j : Nat) (h : j < 4) : (w.alloc (.cells #[.int .i64 1, .int .i64 (-1), .int .i64 2, .int .i64 (-2)] t (0, 0))).cell? ⟨w.heap.size, j, none⟩ = some (.int .i64 (fourL.getD j 0)) := by
  show ((match (w.alloc (.cells #[.int .i64 1, .int .i64 (-1), .int .i64 2, .int .i64 (-2)] t (0, 0))).heap[w.heap.size]? with
    | some (.cells c _ _) => c[j]?
    | _ => none) : Option Value) = _
  rw [heap_alloc_at]
  match j, h with
  | 0, _ => rfl
  | 1, _ => rfl
  | 2, _ => rfl
  | 3, _ => rfl
theorem lnLetters_any (w : World) : Calls Try.prog 39 #[] w (GivesFour w) := by
  have hc := four_cells w 3
  have hb := nxAlloc (Below.refl w.heap.size w) (.cells #[.int .i64 1, .int .i64 (-1), .int .i64 2, .int .i64 (-2)] 3 (0, 0))
  go_enter Try.func39, Try.ntmps39
  go_wp2_with fail
  go_ret
  exact ⟨rfl, hc, by simp, hb⟩
theorem twoLetters_any (w : World) : Calls Try.prog 66 #[] w (GivesFour w) := by
  have hc := four_cells w 3
  have hb := nxAlloc (Below.refl w.heap.size w) (.cells #[.int .i64 1, .int .i64 (-1), .int .i64 2, .int .i64 (-2)] 3 (0, 0))
  go_enter Try.func66, Try.ntmps66
  go_wp2_with fail
  go_ret
  exact ⟨rfl, hc, by simp, hb⟩
set_option maxRecDepth 100000 in
set_option maxHeartbeats 1000000 in
theorem withLetter_any (p : Pr) (x : Int) (w : World) (hok : okP p) (hc : p.1.carets ≤ 30) (h0 : x ≠ 0) (h1 : -2 ≤ x) (h2 : x ≤ 2) :
    Calls Try.prog 67 #[.agg #[.string p.1.str, .string p.2.str], .int .i64 x] w (Gives (.agg #[.string (mulP p (ltP x)).1.str, .string (mulP p (ltP x)).2.str]) w) := by
  obtain ⟨k1, k2, k3⟩ := ltP_small h0 h1 h2
  have hL : ∀ w, Calls Try.prog 81 #[.int .i64 x] w (Gives (.tuple #[.agg #[.string (ltP x).1.str, .string (ltP x).2.str], .bool true]) w) := fun w => by
    have := pairOfLetter_any x w h0 (by omega) (by omega)
    unfold ltO at this
    rw [if_pos (by unfold num; split <;> omega)] at this
    exact this
  have hP := fun w => product_any p (ltP x) w hok k1 hc (by omega)
  generalize (mulP p (ltP x)).1.str = C at *
  generalize (mulP p (ltP x)).2.str = D at *
  generalize (ltP x).1.str = A at *
  generalize (ltP x).2.str = B at *
  clear h0 h1 h2 k1 k2 k3
  go_enter Try.func67, Try.ntmps67
  go_wp2_with fail
  have hb0 : Below w.heap.size w ((w.alloc (.cells #[.string p.1.str, .string p.2.str] 27 (0, 0))).alloc (.cells #[.string ⟨#[]⟩, .string ⟨#[]⟩] 27 (0, 0))) := nxAlloc (nxAlloc (Below.refl _ _) _) _
  have hx0 := heap_keep (nxAlloc (Below.refl _ _) (.cells #[.string ⟨#[]⟩, .string ⟨#[]⟩] 27 (0, 0))) (heap_alloc_at w (.cells #[.string p.1.str, .string p.2.str] 27 (0, 0)))
  have hx1 := heap_alloc_at (w.alloc (.cells #[.string p.1.str, .string p.2.str] 27 (0, 0))) (.cells #[.string ⟨#[]⟩, .string ⟨#[]⟩] 27 (0, 0))
  generalize ((w.alloc (.cells #[.string p.1.str, .string p.2.str] 27 (0, 0))).alloc (.cells #[.string ⟨#[]⟩, .string ⟨#[]⟩] 27 (0, 0))) = w0 at *
  have e1 : (w.alloc (.cells #[.string p.1.str, .string p.2.str] 27 (0, 0))).heap.size = w.heap.size + 1 := by simp
  rw [e1] at hx1
  clear e1
  obtain ⟨hx0a, hx0b, hx0c⟩ := two_facts hx0
  obtain ⟨hx0f, hx0g⟩ := two_frozen hx0
  obtain ⟨hx1a, hx1b, hx1c⟩ := two_facts hx1
  obtain ⟨hx1f, hx1g⟩ := two_frozen hx1
  refine (hL _).mono ?_; rintro e w1 ⟨rfl, hb1⟩
  have hbw1 := nx hb0 hb1
  replace hx0 := heap_keep hb1 hx0
  replace hx1 := heap_keep hb1 hx1
  clear hx0a hx0b hx0c hx0f hx0g
  obtain ⟨hx0a, hx0b, hx0c⟩ := two_facts hx0
  obtain ⟨hx0f, hx0g⟩ := two_frozen hx0
  clear hx1a hx1b hx1c hx1f hx1g
  obtain ⟨hx1a, hx1b, hx1c⟩ := two_facts hx1
  obtain ⟨hx1f, hx1g⟩ := two_frozen hx1
  clear hb1 hb0
  go_wp2_with fail
  have hbw2 := nxAlloc hbw1 (.cells #[.string A, .string B] 27 (0, 0))
  replace hx0 := heap_keep (nxAlloc (Below.refl _ _) (.cells #[.string A, .string B] 27 (0, 0))) hx0
  replace hx1 := heap_keep (nxAlloc (Below.refl _ _) (.cells #[.string A, .string B] 27 (0, 0))) hx1
  have hy2 := heap_alloc_at w1 (.cells #[.string A, .string B] 27 (0, 0))
  generalize w1.alloc (.cells #[.string A, .string B] 27 (0, 0)) = w2 at *
  clear hbw1
  clear hx0a hx0b hx0c hx0f hx0g
  obtain ⟨hx0a, hx0b, hx0c⟩ := two_facts hx0
  obtain ⟨hx0f, hx0g⟩ := two_frozen hx0
  clear hx1a hx1b hx1c hx1f hx1g
  obtain ⟨hx1a, hx1b, hx1c⟩ := two_facts hx1
  obtain ⟨hx1f, hx1g⟩ := two_frozen hx1
  obtain ⟨hy2a, hy2b, hy2c⟩ := two_facts hy2
  obtain ⟨hy2f, hy2g⟩ := two_frozen hy2
  go_wp2_with fail
  refine (hP _).mono ?_; rintro e w3 ⟨rfl, hb3⟩
  have hbw3 := nx hbw2 hb3
  replace hx0 := heap_keep hb3 hx0
  replace hx1 := heap_keep hb3 hx1
  replace hy2 := heap_keep hb3 hy2
  clear hx0a hx0b hx0c hx0f hx0g
  obtain ⟨hx0a, hx0b, hx0c⟩ := two_facts hx0
  obtain ⟨hx0f, hx0g⟩ := two_frozen hx0
  clear hx1a hx1b hx1c hx1f hx1g
  obtain ⟨hx1a, hx1b, hx1c⟩ := two_facts hx1
  obtain ⟨hx1f, hx1g⟩ := two_frozen hx1
  clear hy2a hy2b hy2c hy2f hy2g
  obtain ⟨hy2a, hy2b, hy2c⟩ := two_facts hy2
  obtain ⟨hy2f, hy2g⟩ := two_frozen hy2
  clear hb3 hbw2
  go_wp2_with fail
  obtain ⟨q1, q2⟩ := two_cells (set_two (.string C) (.string D) hx1)
  refine bodyPost_ret (v := .agg #[.string C, .string D]) (by simp [q1, q2, results, Try.results67, go_sem]) rfl ⟨rfl, ?_⟩
  exact (hbw3.setCell (by show w.heap.size ≤ w.heap.size + 1; omega) _).setCell (by show w.heap.size ≤ w.heap.size + 1; omega) _
end Go.Proofs.Yteflpaebckichaa

/-! Sp1 -/
namespace Go.Proofs.Yteflpaebckichaa
open Go.RowKit Go.Maps

/-- The products of the members of a set with letters. -/
def Near4 (S : Pr → Prop) (p : Pr) : Prop := ∃ q j, S q ∧ j < 4 ∧ p = mulP q (ltP (fourL.getD j 0))
/-- A list of them. -/
def nearQ (L : List Pr) : List Pr := L.flatMap fun q => fourL.map fun x => mulP q (ltP x)
theorem nearQ_len (L : List Pr) : (nearQ L).length = 4 * L.length := by
  unfold nearQ
  induction L with
  | nil => rfl
  | cons a L ih => simp only [List.flatMap_cons, List.length_append, List.length_map, List.length_cons]; rw [ih]; simp [fourL]; omega
theorem nearQ_mem {L : List Pr} {q : Pr} {j : Nat} (hq : q ∈ L) (hj : j < 4) : mulP q (ltP (fourL.getD j 0)) ∈ nearQ L := by
  unfold nearQ
  rw [List.mem_flatMap]
  refine ⟨q, hq, ?_⟩
  match j, hj with
  | 0, _ => simp [fourL]
  | 1, _ => simp [fourL]
  | 2, _ => simp [fourL]
  | 3, _ => simp [fourL]
def smallP (p : Pr) : Prop := okP p ∧ p.1.carets ≤ 20
theorem smallP.both {p : Pr} (h : smallP p) : p.1.carets ≤ 1000 ∧ p.2.carets ≤ 1000 := by have h1 := h.1; have h2 := h.2; unfold okP at h1; omega
theorem near_small {q : Pr} {j : Nat} (hq : smallP q) (hj : j < 4) : okP (mulP q (ltP (fourL.getD j 0))) ∧ (mulP q (ltP (fourL.getD j 0))).1.carets ≤ 30 := by
  obtain ⟨f1, f2, f3⟩ := fourL_get j hj
  obtain ⟨k1, k2, k3⟩ := ltP_small f1 f2 f3
  have h1 := mulP_carets hq.1 k1
  have h2 := hq.1
  have h3 := hq.2
  unfold okP at h2
  exact ⟨mulP_ok hq.1 k1, by omega⟩
def GivesP (n : Nat) (S : Pr → Prop) (w : World) (e : Ending) (w' : World) : Prop := ∃ b, w.heap.size ≤ b ∧ SetP w' b n S ∧ Below w.heap.size w w' ∧ e = .returned (.map (some b))
theorem pair_key {xa xb : ByteArray} {kl : Lit} {S : Pr → Prop} (hk : keyOf Try.prog 27 (.agg #[.string xa, .string xb]) = some kl) (hs : setP S kl) : ∃ p : Pr, xa = p.1.str ∧ xb = p.2.str ∧ S p ∧ kl = litP p ∧ p.1.carets ≤ 1000 ∧ p.2.carets ≤ 1000 := by
  obtain ⟨p, ⟨h1, h2, hp⟩, rfl⟩ := hs
  have e := law_pr.inj hk (key_pair h1 h2)
  simp only [Value.agg.injEq, Array.mk.injEq, List.cons.injEq, Value.string.injEq, and_true] at e
  exact ⟨p, e.1, e.2, hp, rfl, h1, h2⟩

set_option maxRecDepth 100000 in
set_option maxHeartbeats 4000000 in
theorem next_any (S T : Pr → Prop) (hS : ∀ p, S p → smallP p) (L : List Pr) (hL : ∀ p, S p → p ∈ L) (hl : L.length ≤ 2000) (b c n n2 : Nat) (w : World) (h : SetP w b n S) (h2 : SetP w c n2 T) :
    Calls Try.prog 46 #[.map (some b), .map (some c)] w (GivesP (4 * L.length) (fun p => Near4 S p ∧ ¬ T p) w) := by
  have hmm := @run_makeMap Try.prog
  have hlt := h.lt
  have hlt2 := h2.lt
  have HH := Lib.hid h
  have HH2 := Lib.hid h2
  have HS := Lib.hid hS
  have HL := Lib.hid hL
  clear h h2 hS hL
  go_enter Try.func46, Try.ntmps46
  go_wp2_with (first | (at_range; refine wpList_range_set rfl _ 53 rfl law_pr Try.underlying53 rfl (SetM.alloc HH.out (.map #[] 0)) ?_; intro w0 cnt hr0 hg0 hs0) | go_in)
  go_frame
  have hb0 : Below w.heap.size w w0 := (nxAlloc (Below.refl _ _) (.map #[] 0)).grown hg0 (by simp) (fun k hk => by cases hk)
  have hm0 : SetP w0 w.heap.size 0 (fun _ => False) := (SetM.congr (SetM.made Try.prog 27 4 w) (fun _ => ⟨fun h => h.elim, fun ⟨_, ht, _⟩ => ht.2.2.elim⟩)).kept hg0 (by simp)
  have e1 : (w.alloc (.map #[] 0)).heap.size = w.heap.size + 1 := by simp
  clear hs0 hg0 hmm
  generalize (w.alloc (.map #[] 0)).heap.size = r at *
  have hr1 : w.heap.size < r := by omega
  clear e1
  go_loopw [6] (fun _ wr => ∃ (cnt : Nat) (Lf : Lit → Prop), SetR Try.prog 27 4 wr b r n cnt (setP S) Lf ∧ SetP wr w.heap.size (4 * L.length) (Near4 fun q => S q ∧ ¬ Lf (litP q)) ∧ Below w.heap.size w wr) (fun _ wr => wr.rangeLeft b r)
  case atStart => exact ⟨cnt, _, hr0, SetM.mono (SetP.congr hm0 (fun p _ _ => ⟨fun h => h.elim, fun ⟨q, j, ⟨h1, h2⟩, _⟩ => h2 ((setP_iff (HS.out q h1).both.1 (HS.out q h1).both.2).2 h1)⟩)) (Nat.zero_le _), hb0⟩
  case round =>
    clear hr0 hm0 hb0
    obtain ⟨cnt2, Lf, hR, hM, hbw⟩ := hrel
    have HR := Lib.hid hR
    go_wp2_with (first | (at_next; refine wpList_next_set rfl _ rfl law_pr Try.underlying4 (fun x : ByteArray × ByteArray => Value.agg #[.string x.1, .string x.2]) key_inv_pr rfl hR ?_ ?_) | go_in)
    · intro hL0
      have hfin : SetP wr w.heap.size (4 * L.length) (Near4 S) := SetP.congr hM (fun p _ _ => ⟨fun ⟨q, j, h1, h2⟩ => ⟨q, j, h1.1, h2⟩, fun ⟨q, j, h1, h2⟩ => ⟨q, j, ⟨h1, hL0 _⟩, h2⟩⟩)
      have hT2 : SetP wr c n2 T := SetM.heap HH2.out (hbw.block c hlt2)
      have HF := Lib.hid hfin
      have HT2 := Lib.hid hT2
      clear hR hM HR hfin hT2
      go_wp2_with (first | (at_range; refine wpList_range_set rfl _ 53 rfl law_pr Try.underlying53 rfl HT2.out ?_; intro w2 cnt2 hr2 hg2 hs2) | go_in)
      go_frame
      have hF2 : SetP w2 w.heap.size (4 * L.length) (fun p => Near4 S p ∧ (¬ T p ∨ setP T (litP p))) := SetP.congr (SetM.kept HF.out hg2 (by simp)) (fun p _ _ => by
        constructor
        · intro h; exact ⟨h, by by_cases hT : T p; exact Or.inr ⟨p, ⟨by assumption, by assumption, hT⟩, rfl⟩; exact Or.inl hT⟩
        · exact fun h => h.1)
      have hbw2 : Below w.heap.size w w2 := hbw.grown hg2 hbw.size (fun k hk => by cases hk)
      have hge : w.heap.size < wr.heap.size := HF.out.lt
      clear HF HT2 hg2 hs2 hbw
      generalize wr.heap.size = r2 at *
      go_loopw [9] (fun _ wr => ∃ (cnt : Nat) (Lf : Lit → Prop), SetR Try.prog 27 4 wr c r2 n2 cnt (setP T) Lf ∧ SetP wr w.heap.size (4 * L.length) (fun p => Near4 S p ∧ (¬ T p ∨ Lf (litP p))) ∧ Below w.heap.size w wr) (fun _ wr => wr.rangeLeft c r2)
      case atStart => exact ⟨_, _, hr2, hF2, hbw2⟩
      case round =>
        clear hr2 hF2 hbw2
        obtain ⟨cnt3, L2, hR, hM, hbw⟩ := hrel
        have HR := Lib.hid hR
        go_wp2_with (first | (at_next; refine wpList_next_set rfl _ rfl law_pr Try.underlying4 (fun x : ByteArray × ByteArray => Value.agg #[.string x.1, .string x.2]) key_inv_pr rfl hR ?_ ?_) | go_in)
        · intro hL0
          have hfin : SetP wr w.heap.size (4 * L.length) (fun p => Near4 S p ∧ ¬ T p) := SetP.congr hM (fun p _ _ => ⟨fun ⟨h1, h2⟩ => ⟨h1, h2.resolve_right (hL0 _)⟩, fun ⟨h1, h2⟩ => ⟨h1, Or.inl h2⟩⟩)
          have HF := Lib.hid hfin
          clear hR hM HR hfin
          go_wp2_with fail
          go_ret
          exact ⟨w.heap.size, Nat.le_refl _, HF.out, hbw, rfl⟩
        · intro xa xb kl w1 cnt1 hkey hLk hR1 hlt1 hg1 hs1 hen
          obtain ⟨q, rfl, rfl, hq, rfl, hqc1, hqc2⟩ := pair_key hkey (SetR.sub law_pr hR _ hLk)
          have hbw1 : Below w.heap.size w w1 := hbw.grown hg1 hbw.size (fun k hk => by cases hk; omega)
          have hM1 : SetP w1 w.heap.size (4 * L.length) _ := SetM.kept hM hg1 (by simp; omega)
          have hR2 := SetR.alloc hR1 (.cells #[.string q.1.str, .string q.2.str] 27 (0, 0))
          have hM2 : SetP (w1.alloc (.cells #[.string q.1.str, .string q.2.str] 27 (0, 0))) w.heap.size (4 * L.length) _ := SetM.alloc hM1 (.cells #[.string q.1.str, .string q.2.str] 27 (0, 0))
          have hbw2 := nxAlloc hbw1 (.cells #[.string q.1.str, .string q.2.str] 27 (0, 0))
          have hy := heap_alloc_at w1 (.cells #[.string q.1.str, .string q.2.str] 27 (0, 0))
          obtain ⟨ya, yb, yc⟩ := two_facts hy
          have HM := Lib.hid hM2
          clear hs1 hg1 hM hbw hR hkey hR1 hM1 hbw1 hM2 hy
          go_wp2_with (first | (at_delete; go_loud (refine wpList_drop_set rfl _ _ 53 27 rfl law_pr Try.underlying53 rfl HM.out _ _ rfl (key_pair hqc1 hqc2) ?_); intro w9 hm9 hg9) | go_in)
          have hR9 := SetR.kept hR2 hg9 (by simp; omega) (by simp; omega)
          have hM9 : SetP w9 w.heap.size (4 * L.length) (fun p => Near4 S p ∧ (¬ T p ∨ (L2 (litP p) ∧ litP p ≠ litP q))) := SetM.congr hm9 (by
            intro z
            constructor
            · rintro ⟨⟨p, ⟨h1, h2, h3, h4⟩, rfl⟩, hne⟩
              exact ⟨p, ⟨h1, h2, h3, h4.imp id (fun h => ⟨h, hne⟩)⟩, rfl⟩
            · rintro ⟨p, ⟨h1, h2, h3, h4⟩, rfl⟩
              refine ⟨⟨p, ⟨h1, h2, h3, h4.imp id (fun h => h.1)⟩, rfl⟩, fun e => ?_⟩
              rcases h4 with h4 | h4
              · exact h4 (by rw [litP_inj h1 h2 hqc1 hqc2 e]; exact hq)
              · exact h4.2 e)
          have hbw9 : Below w.heap.size w w9 := hbw2.grown hg9 hbw2.size (fun k hk => by cases hk; exact Nat.le_refl _)
          go_frame
          go_roundw
          case rel => exact ⟨cnt1, _, hR9, hM9, hbw9⟩
          case measure => rw [hR9.left_eq, HR.out.left_eq]; omega
    · intro xa xb kl w1 cnt1 hkey hLk hR1 hlt1 hg1 hs1 hen
      obtain ⟨q, rfl, rfl, hq, rfl, hqc1, hqc2⟩ := pair_key hkey (SetR.sub law_pr hR _ hLk)
      have hqs := HS.out q hq
      have hbw1 : Below w.heap.size w w1 := hbw.grown hg1 (by have := hbw.size; omega) (fun k hk => by cases hk; omega)
      have hM1 : SetP w1 w.heap.size (4 * L.length) _ := SetM.kept hM hg1 (by simp; omega)
      clear hs1 hg1 hM hbw hR hkey
      go_wp2_with fail
      have hbn := nxAlloc hbw1 (.cells #[.string q.1.str, .string q.2.str] 27 (0, 0))
      have hy := heap_alloc_at w1 (.cells #[.string q.1.str, .string q.2.str] 27 (0, 0))
      have hyl : w1.heap.size < (w1.alloc (.cells #[.string q.1.str, .string q.2.str] 27 (0, 0))).heap.size := by simp
      have hgw : w.heap.size < w1.heap.size := hM1.lt
      replace hR1 := SetR.alloc hR1 (.cells #[.string q.1.str, .string q.2.str] 27 (0, 0))
      replace hM1 : SetP (w1.alloc (.cells #[.string q.1.str, .string q.2.str] 27 (0, 0))) w.heap.size (4 * L.length) _ := SetM.alloc hM1 (.cells #[.string q.1.str, .string q.2.str] 27 (0, 0))
      generalize w1.alloc (.cells #[.string q.1.str, .string q.2.str] 27 (0, 0)) = w2 at *
      clear hbw1
      generalize w1.heap.size = g6 at *
      refine (twoLetters_any _).mono ?_; rintro e w3 ⟨rfl, hL0, hg3, hb3⟩
      replace hbn := nx hbn hb3
      replace hy := heap_keep hb3 hy
      replace hR1 := SetR.below hR1 hb3
      replace hM1 : SetP w3 w.heap.size (4 * L.length) _ := SetM.below hM1 hb3
      have hg46 : g6 < w2.heap.size := hyl
      clear hb3 hyl
      generalize w2.heap.size = g4 at *
      have HL0 := Lib.hid hL0
      clear hL0
      go_wp2_with fail
      go_loopw [8, 19] (fun _ c wr => ∃ j : Nat, j ≤ 4 ∧ c = .int .i64 j ∧ SetR Try.prog 27 4 wr b r n cnt1 (setP S) (fun z => Lf z ∧ z ≠ litP q) ∧ SetP wr w.heap.size (4 * L.length + j) (fun p => Near4 (fun q => S q ∧ ¬ Lf (litP q)) p ∨ ∃ i, i < j ∧ p = mulP q (ltP (fourL.getD i 0))) ∧ Below w.heap.size w wr ∧ wr.heap[g6]? = some (.cells #[.string q.1.str, .string q.2.str] 27 (0, 0)) ∧ w3.heap.size ≤ wr.heap.size ∧ wr.heap[g4]? = w3.heap[g4]?) (fun _ c _ => 4 - (intOf c).toNat)
      case atStart => exact ⟨0, by omega, rfl, hR1, SetP.congr hM1 (fun p _ _ => ⟨Or.inl, fun h => h.elim id (fun ⟨i, h, _⟩ => by omega)⟩), hbn, hy, Nat.le_refl _, rfl⟩
      case round =>
        clear hR1 hM1 hbn hy
        obtain ⟨j, hj, rfl, hR2, hM2, hbn, hy, hsz, hfar⟩ := hrel
        by_cases hj4 : j < 4
        · have hj4' : (j : Int) < 4 := by omega
          have c1 : wr.cell? ⟨g4, j, none⟩ = some (.int .i64 (fourL.getD j 0)) := (World.cell?_of_block (a := ⟨g4, j, none⟩) hfar).trans (HL0.out j hj4)
          obtain ⟨f1, f2, f3⟩ := fourL_get j hj4
          obtain ⟨n1, n2'⟩ := near_small hqs hj4
          obtain ⟨x, hx⟩ : ∃ x, x = fourL.getD j 0 := ⟨_, rfl⟩
          rw [← hx] at c1 f1 f2 f3 n1 n2'
          have hW := fun w => withLetter_any q x w hqs.1 (by have := hqs.2; omega) f1 f2 f3
          obtain ⟨P, hP⟩ : ∃ P, P = mulP q (ltP x) := ⟨_, rfl⟩
          rw [← hP] at n1 n2' hW
          have hkP := key_pair (p := P) (by omega) (by unfold okP at n1; omega)
          have HP : Hid (P = mulP q (ltP (fourL.getD j 0))) := Lib.hid (by rw [hP, hx])
          have hg6 : g6 < wr.heap.size := lt_of_block hy
          obtain ⟨ya, yb, yc⟩ := two_facts hy
          clear hx hP f1 f2 f3
          go_wp2_with fail
          refine (hW _).mono ?_; rintro e w5 ⟨rfl, hb5⟩
          replace hR2 := SetR.below hR2 hb5
          replace hM2 : SetP w5 w.heap.size (4 * L.length + j) _ := SetM.below hM2 hb5
          replace hbn := nx hbn hb5
          have hy5 := heap_keep hb5 hy
          have hfar5 : w5.heap[g4]? = w3.heap[g4]? := (hb5.block g4 (by omega)).trans hfar
          have hsz5 := Nat.le_trans hsz hb5.size
          have HM := Lib.hid hM2
          clear hb5 hy hfar hsz ya yb yc hM2
          go_wp2_with (first | (at_mapUpdate; go_loud (refine wpList_put_set rfl _ _ _ 53 rfl law_pr Try.underlying53 Try.underlying4 rfl HM.out (by unfold maxLen; omega) _ _ rfl rfl hkP ?_); intro w9 hm9 hg9) | go_in)
          have hR9 := SetR.kept hR2 hg9 (by simp; omega) (by simp; omega)
          have hM9 : SetP w9 w.heap.size (4 * L.length + (j + 1)) (fun p => Near4 (fun q => S q ∧ ¬ Lf (litP q)) p ∨ ∃ i, i < j + 1 ∧ p = mulP q (ltP (fourL.getD i 0))) := SetM.congr hm9 (by
            intro z
            constructor
            · rintro (⟨p, ⟨h1, h2, h3⟩, e⟩ | e)
              · exact ⟨p, ⟨h1, h2, h3.imp id (fun ⟨i, hi, e⟩ => ⟨i, by omega, e⟩)⟩, e⟩
              · exact ⟨P, ⟨by omega, by unfold okP at n1; omega, Or.inr ⟨j, by omega, HP.out⟩⟩, e⟩
            · rintro ⟨p, ⟨h1, h2, h3 | ⟨i, hi, e3⟩⟩, e⟩
              · exact Or.inl ⟨p, ⟨h1, h2, Or.inl h3⟩, e⟩
              · rcases Nat.lt_or_ge i j with hij | hij
                · exact Or.inl ⟨p, ⟨h1, h2, Or.inr ⟨i, hij, e3⟩⟩, e⟩
                · obtain rfl : i = j := by omega
                  exact Or.inr (by rw [e, e3, HP.out]))
          have hbw9 : Below w.heap.size w w9 := hbn.grown hg9 hbn.size (fun k hk => by cases hk; exact Nat.le_refl _)
          have hy9 := (hg9.block g6 (by omega) (by simp; omega)).trans hy5
          have hfar9 := (hg9.block g4 (by omega) (by simp; omega)).trans hfar5
          have hsz9 := Nat.le_trans hsz5 hg9.size
          go_roundw
          case rel => exact ⟨j + 1, by omega, by go_num, hR9, hM9, hbw9, hy9, hsz9, hfar9⟩
          case measure => simp [intOf]; omega
        · obtain rfl : j = 4 := by omega
          have hfin : SetP wr w.heap.size (4 * L.length) (Near4 fun q' => S q' ∧ ¬ (Lf (litP q') ∧ litP q' ≠ litP q)) := by
            have h9 : SetP wr w.heap.size (4 * L.length + 4) (Near4 fun q' => S q' ∧ ¬ (Lf (litP q') ∧ litP q' ≠ litP q)) := SetP.congr hM2 (by
              intro p _ _
              constructor
              · rintro (⟨q', i, ⟨h1, h2⟩, h3⟩ | ⟨i, hi, e⟩)
                · exact ⟨q', i, ⟨h1, fun h => h2 h.1⟩, h3⟩
                · exact ⟨q, i, ⟨hq, fun h => h.2 rfl⟩, hi, e⟩
              · rintro ⟨q', i, ⟨h1, h2⟩, hi, e⟩
                by_cases eq : litP q' = litP q
                · have hs' := (HS.out q' h1).both
                  obtain rfl := litP_inj hs'.1 hs'.2 hqc1 hqc2 eq
                  exact Or.inr ⟨i, hi, e⟩
                · exact Or.inl ⟨q', i, ⟨h1, fun h => h2 ⟨h, eq⟩⟩, hi, e⟩)
            have h8 := SetP.tight h9 (L := nearQ L) (by rintro p ⟨q', i, ⟨h1, _⟩, hi, rfl⟩; exact nearQ_mem (HL.out q' h1) hi)
            rwa [nearQ_len] at h8
          have HF := Lib.hid hfin
          clear hM2 hfin hfar
          go_wp2_with fail
          go_roundw
          case rel => exact ⟨cnt1, _, hR2, HF.out, hbn⟩
          case measure => rw [hR2.left_eq, HR.out.left_eq]; omega
end Go.Proofs.Yteflpaebckichaa
