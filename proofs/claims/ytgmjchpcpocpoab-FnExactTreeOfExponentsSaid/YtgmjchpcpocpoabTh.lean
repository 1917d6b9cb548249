/- Walks: spec.TreeOfExponents. -/
import Derived.Test.YtgmjchpcpocpoabTg
namespace Go.Proofs.Ytgmjchpcpocpoab
open Go.RowKit

theorem lcomb_lcT (n : Nat) : lcomb n = lcT n := by
  induction n with
  | zero => rfl
  | succ n ih => rw [lcomb, lcT, ih]
theorem strip_len (s : List Tr) : sumT (stripT s) + (stripT s).length ≤ sumT s + s.length := by
  have h : ∃ r, s = stripT s ++ r := by
    refine ⟨(s.reverse.takeWhile Tr.isLf).reverse, ?_⟩
    have := congrArg List.reverse (List.takeWhile_append_dropWhile (p := Tr.isLf) (l := s.reverse))
    rw [List.reverse_append, List.reverse_reverse] at this
    exact this.symm
  obtain ⟨r, hr⟩ := h
  have h1 := congrArg sumT hr
  have h2 := congrArg List.length hr
  rw [sumT_app] at h1
  rw [List.length_append] at h2
  omega
theorem treeOf_big (t : Tr) (h : 8 < t.carets) : treeOf t.str = none := by
  cases hh : treeOf t.str with
  | none => rfl
  | some u =>
    obtain ⟨h1, h2⟩ := treeOf_some hh
    have h3 := congrArg ByteArray.size h1
    rw [Tr.str_size, Tr.str_size] at h3
    omega
theorem graft_ok (t u : Tr) (k : Nat) (ht : t.carets ≤ 8) (hk : k ≤ t.carets) : graftO t.str k u.str = if t.carets + u.carets ≤ 8 then some (t.graft k u).str else none := by
  by_cases hu : u.carets ≤ 8
  · rw [graftO_tr t u k ht hu]
    by_cases h : t.carets + u.carets ≤ 8
    · rw [if_pos (by omega), if_pos h]
    · rw [if_neg (by omega), if_neg h]
  · rw [if_neg (by omega)]
    unfold graftO
    rw [treeOf_str t ht, treeOf_big u (by omega)]

set_option maxRecDepth 100000 in
set_option maxHeartbeats 2000000 in
theorem specTreeOfExponents_any (v : Value) (b1 : Nat) (L : List Int) (w : World) (hv : CellsI b1 w v L) (_hz : ∀ s ∈ L, -9223372036854775808 ≤ s ∧ s ≤ 9223372036854775807) :
    Calls Try.prog 19 #[v] w (Gives (ansV (TreeOfExponents_o L)) w) := by
  have hA := l1All_any v b1 L w hv
  have hF := wdForest_any v b1 L w hv
  have hex : exOk L = (decide (L.length ≤ 9) && (L.all in8 && !(L.getLast? == some 0))) := rfl
  obtain ⟨oa, cap, rfl, hcl, hcm, hcc⟩ := hv.form
  unfold maxLen at hcm
  have HC := Lib.hid hcc
  unfold TreeOfExponents_o
  clear hv _hz hcc
  by_cases h : L.length ≤ 9
  · rw [show decide (L.length ≤ 9) = true by simpa using h, Bool.true_and] at hex
    have hn : decide (9 < L.length) = false := by simp; omega
    have hn' : decide (9 < (L.length : Int)) = false := by simp; omega
    cases ha : L.all in8 with
    | false =>
      rw [ha] at hA
      have : exOk L = false := by rw [hex, ha]; rfl
      rw [this, if_neg (by simp)]
      clear hex ha this hF
      go_enter Try.func19, Try.ntmps19
      go_wp2_with fail
      refine hA.mono ?_; rintro e w1 ⟨rfl, rfl⟩
      go_wp2_with fail
      go_ret2
      exact ⟨rfl, Below.refl _ _⟩
    | true =>
      rw [ha] at hA
      have hp : ∀ x ∈ L, 0 ≤ x ∧ x ≤ 8 := fun x hx => in8_iff.1 (List.all_eq_true.1 ha x hx)
      replace hF := hF hp h
      have hsum := toN_sum hp
      rw [ha, Bool.true_and] at hex
      obtain ⟨S, hS⟩ : ∃ S, S = (toN L).sum := ⟨_, rfl⟩
      have hlenS := stackD_length (S + 1) (toN L) (by omega)
      have hsumS := sumT_stack (S + 1) (toN L) (by omega)
      rw [toN_length] at hlenS
      have htree : treeE (toN L) = combT (stripT (stackD (S + 1) (toN L))) := by rw [hS]; rfl
      rw [← hS] at hF hsum hlenS hsumS
      have hsl := strip_len (stackD (S + 1) (toN L))
      obtain ⟨X, hX⟩ : ∃ X, X = stackD (S + 1) (toN L) := ⟨_, rfl⟩
      rw [← hX] at hF hlenS hsumS htree hsl
      have hB : X.length ≤ 200 := by omega
      have hB2 : sumT X + X.length ≤ 1000 := by omega
      have goal_yes : exOk L = true → Calls Try.prog 19 #[.slice oa L.length cap] w (Gives (ansV (lim (treeE (toN L)))) w) := by
        intro hok
        have hlast : ∀ n, L.length = n + 1 → (L.getD n 0 == 0) = false := by
          intro n hl
          rw [hex, last_at hl] at hok
          simpa using hok
        have HT := Lib.hid htree
        have HLA := Lib.hid hlast
        clear hok htree hex hlast hX hS ha hp
        cases hl : L.length with
        | zero =>
          rw [hl] at hA hF hn hn' hcl
          clear hl
          go_enter Try.func19, Try.ntmps19
          go_wp2_with fail
          refine hA.mono ?_; rintro e w1 ⟨rfl, rfl⟩
          go_wp2_with fail
          refine hF.mono ?_; rintro e w2 ⟨g2, cap2, own2, hb2, rfl⟩
          rw [strs_length] at own2 ⊢
          go_wp2_with fail
          refine (wdShort_any _ g2 cap2 X _ own2.cells (by omega)).mono ?_; rintro e w3 ⟨g3, cap3, own3, hb3, rfl⟩
          go_wp2_with fail
          refine (wdComb_any _ _ (stripT X) _ own3.cells (by omega)).mono ?_; rintro e w4 ⟨rfl, hb4⟩
          have hca := comb_all (stripT X)
          have hcc := fun w => carets_str (combT (stripT X)) w (by omega)
          have hbw := nx (nx hb2 hb3) hb4
          have HT2 := HT.out
          generalize combT (stripT X) = T at *
          have HT3 := Lib.hid HT2
          clear own2 own3 hb2 hb3 hb4 HT2 HT hF hA
          go_wp2_with fail
          refine (hcc _).mono ?_; rintro e w5 ⟨rfl, rfl⟩
          by_cases hl8 : (T.carets : Int) ≤ 8
          all_goals
            go_wp2_with fail
            go_ret2
          · exact ⟨by rw [HT3.out, lim, if_pos (by omega)]; rfl, hbw⟩
          · exact ⟨by rw [HT3.out, lim, if_neg (by omega)]; rfl, hbw⟩
        | succ n =>
          have hz := HLA.out n hl
          obtain ⟨g, rfl, _, _, c1⟩ := HC.out n (by omega)
          generalize L.getD n 0 = x at c1 hz
          rw [hl] at hA hF hn hn' hcl
          have hnn : (0 : Int) ≤ (n : Int) := by omega
          have hd0 : decide ((0 : Int) < (n : Int) + 1) = true := by first | (simp; done) | (simp; omega)
          have hn2 : decide (9 < (n : Int) + 1) = false := by simp; omega
          have hn3 : decide (9 < n + 1) = false := by simp; omega
          clear hl
          go_enter Try.func19, Try.ntmps19
          go_wp2_with fail
          refine hA.mono ?_; rintro e w1 ⟨rfl, rfl⟩
          go_wp2_with fail
          refine hF.mono ?_; rintro e w2 ⟨g2, cap2, own2, hb2, rfl⟩
          rw [strs_length] at own2 ⊢
          go_wp2_with fail
          refine (wdShort_any _ g2 cap2 X _ own2.cells (by omega)).mono ?_; rintro e w3 ⟨g3, cap3, own3, hb3, rfl⟩
          go_wp2_with fail
          refine (wdComb_any _ _ (stripT X) _ own3.cells (by omega)).mono ?_; rintro e w4 ⟨rfl, hb4⟩
          have hca := comb_all (stripT X)
          have hcc := fun w => carets_str (combT (stripT X)) w (by omega)
          have hbw := nx (nx hb2 hb3) hb4
          have HT2 := HT.out
          generalize combT (stripT X) = T at *
          have HT3 := Lib.hid HT2
          clear own2 own3 hb2 hb3 hb4 HT2 HT hF hA
          go_wp2_with fail
          refine (hcc _).mono ?_; rintro e w5 ⟨rfl, rfl⟩
          by_cases hl8 : (T.carets : Int) ≤ 8
          all_goals
            go_wp2_with fail
            go_ret2
          · exact ⟨by rw [HT3.out, lim, if_pos (by omega)]; rfl, hbw⟩
          · exact ⟨by rw [HT3.out, lim, if_neg (by omega)]; rfl, hbw⟩
      cases hok : exOk L with
      | true => rw [if_pos rfl]; exact goal_yes hok
      | false =>
        rw [if_neg (by simp)]
        clear goal_yes hF htree
        cases hl : L.length with
        | zero =>
          obtain rfl : L = [] := List.length_eq_zero_iff.1 hl
          rw [hok] at hex
          simp at hex
        | succ n =>
          have hz : (L.getD n 0 == 0) = true := by
            rw [hok, last_at hl] at hex
            simpa using hex
          obtain ⟨g, rfl, _, _, c1⟩ := HC.out n (by omega)
          generalize L.getD n 0 = x at c1 hz
          rw [hl] at hA hn hn' hcl
          have hnn : (0 : Int) ≤ (n : Int) := by omega
          have hd0 : decide ((0 : Int) < (n : Int) + 1) = true := by first | (simp; done) | (simp; omega)
          have hn2 : decide (9 < (n : Int) + 1) = false := by simp; omega
          have hn3 : decide (9 < n + 1) = false := by simp; omega
          clear hl hok hex ha hp hS hX
          go_enter Try.func19, Try.ntmps19
          go_wp2_with fail
          refine hA.mono ?_; rintro e w1 ⟨rfl, rfl⟩
          go_wp2_with fail
          go_ret2
          exact ⟨rfl, Below.refl _ _⟩
  · have : exOk L = false := by rw [hex, show decide (L.length ≤ 9) = false by simpa using h]; rfl
    rw [this, if_neg (by simp)]
    have hn : decide (9 < (L.length : Int)) = true := by simp; omega
    clear hex this hA hF h
    go_enter Try.func19, Try.ntmps19
    go_wp2_with fail
    go_ret2
    exact ⟨rfl, Below.refl _ _⟩
end Go.Proofs.Ytgmjchpcpocpoab
