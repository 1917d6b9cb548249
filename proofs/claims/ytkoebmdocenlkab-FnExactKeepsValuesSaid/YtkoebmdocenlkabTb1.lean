/- Walks: which rows are a table. -/
import Derived.Test.YtkoebmdocenlkabTbA
import Derived.Test.YtkoebmdocenlkabIn0
namespace Go.Proofs.Ytkoebmdocenlkab
open Go.RowKit

theorem all_dropT {L : List Int} {k : Nat} (p : Int → Bool) (h : k < L.length) : (L.drop k).all p = (p (L.getD k 0) && (L.drop (k + 1)).all p) := by
  rw [List.drop_eq_getElem_cons h, List.all_cons]; simp [h]
theorem all_dropR {L : List (List Int)} {k : Nat} (p : List Int → Bool) (h : k < L.length) : (L.drop k).all p = (p (L.getD k []) && (L.drop (k + 1)).all p) := by
  rw [List.drop_eq_getElem_cons h, List.all_cons]; simp [h]
theorem inB_false {n : Nat} {x : Int} : inB n x = false ↔ x < 0 ∨ (n : Int) ≤ x := by rw [Bool.eq_false_iff, Ne, inB_iff]; omega

set_option maxHeartbeats 1000000 in
theorem l1AllT_any (a : Option Addr) (n m c : Nat) (z : Int) (hz : z = (n : Int) - 1) (L : List Int) (w : World) (hL : L.length = m) (hm : (m : Int) ≤ 9223372036854775807) (h : InI w a L) :
    Calls Try.prog 77 #[.slice a m c, .int .i64 0, .int .i64 z] w fun e w' => e = .returned (.bool (L.all (inB n))) ∧ w = w' := by
  have HL := Lib.hid hL
  have HI := Lib.hid h
  have HZ := Lib.hid hz
  clear h hL hz
  go_enter Try.func77, Try.ntmps77
  go_wp2_with fail
  go_loop [11] (fun i => ∃ k : Nat, i = .int .i64 k ∧ k ≤ m ∧ Hid (L.all (inB n) = (L.drop k).all (inB n))) (fun i => m - (intOf i).toNat)
  case atStart => exact ⟨0, rfl, Nat.zero_le _, rfl⟩
  case round =>
    obtain ⟨k, rfl, hk, he⟩ := hrel
    by_cases hlt : k < m
    · have hlt' : (k : Int) < (m : Int) := by omega
      have hkL : k < L.length := by have := HL.out; omega
      rcases HI.out with h0 | ⟨g, off, rfl, hr⟩
      · exfalso; rw [h0] at hkL; simp at hkL
      have c1 := hr k hkL
      have he' := he.out
      rw [all_dropT (inB n) hkL] at he'
      generalize L.getD k 0 = x at c1 he'
      clear he hr hkL
      cases hx : inB n x with
      | false =>
        rw [hx, Bool.false_and] at he'
        have HE := Lib.hid he'
        have HX : Hid (x < 0 ∨ z < x) := by
          have := inB_false.1 hx
          have := HZ.out
          show x < 0 ∨ z < x
          omega
        clear he' hx
        go_wp2_with fail
        refine (l1In_no x 0 z _ HX.out).mono ?_; rintro e w1 ⟨rfl, rfl⟩
        go_wp2_with fail
        go_ret
        exact ⟨ret_bool HE.out.symm, rfl⟩
      | true =>
        rw [hx, Bool.true_and] at he'
        have HE := Lib.hid he'
        obtain ⟨h0, h1⟩ := inB_iff.1 hx
        have h2 : x ≤ z := by have := HZ.out; omega
        clear he' hx
        go_wp2_with fail
        refine (l1In_yes x 0 z _ h0 h2).mono ?_; rintro e w1 ⟨rfl, rfl⟩
        go_wp2_with fail
        go_round
        case rel => exact ⟨k + 1, by go_num, by omega, HE⟩
        case measure => simp [intOf]; omega
    · obtain rfl : k = m := by omega
      have he' := he.out
      rw [List.drop_of_length_le (by have := HL.out; omega)] at he'
      have HE : Hid (L.all (inB n) = true) := he'
      clear he he'
      go_wp2_with fail
      go_ret
      exact ⟨ret_bool HE.out.symm, rfl⟩

set_option maxHeartbeats 1000000 in
theorem hasAll_any (gT : Option Addr) (n cT : Nat) (a : Option Addr) (m c : Nat) (L : List Int) (w : World) (hL : L.length = m) (hm : (m : Int) ≤ 9223372036854775807) (h : InI w a L) :
    Calls Try.prog 81 #[.slice gT n cT, .slice a m c] w fun e w' => e = .returned (.bool (L.all (inB n))) ∧ w = w' := by
  have HL := Lib.hid hL
  have HI := Lib.hid h
  clear h hL
  go_enter Try.func81, Try.ntmps81
  go_wp2_with fail
  go_loop [9] (fun i => ∃ k : Nat, i = .int .i64 k ∧ k ≤ m ∧ Hid (L.all (inB n) = (L.drop k).all (inB n))) (fun i => m - (intOf i).toNat)
  case atStart => exact ⟨0, rfl, Nat.zero_le _, rfl⟩
  case round =>
    obtain ⟨k, rfl, hk, he⟩ := hrel
    by_cases hlt : k < m
    · have hlt' : (k : Int) < (m : Int) := by omega
      have hkL : k < L.length := by have := HL.out; omega
      rcases HI.out with h0 | ⟨g, off, rfl, hr⟩
      · exfalso; rw [h0] at hkL; simp at hkL
      have c1 := hr k hkL
      have he' := he.out
      rw [all_dropT (inB n) hkL] at he'
      generalize L.getD k 0 = x at c1 he'
      clear he hr hkL
      cases hx : inB n x with
      | false =>
        rw [hx, Bool.false_and] at he'
        have HE := Lib.hid he'
        have hxx := inB_false.1 hx
        clear he' hx
        by_cases hx0 : x < 0
        · clear hxx
          go_wp2_with fail
          go_ret
          exact ⟨ret_bool HE.out.symm, rfl⟩
        · have hx1 : (n : Int) ≤ x := by omega
          clear hxx
          go_wp2_with fail
          go_ret
          exact ⟨ret_bool HE.out.symm, rfl⟩
      | true =>
        rw [hx, Bool.true_and] at he'
        have HE := Lib.hid he'
        obtain ⟨h0, h1⟩ := inB_iff.1 hx
        have h2 : ¬ x < 0 := by omega
        have h3 : ¬ ((n : Int) ≤ x) := by omega
        clear he' hx h0 h1
        go_wp2_with fail
        go_round
        case rel => exact ⟨k + 1, by go_num, by omega, HE⟩
        case measure => simp [intOf]; omega
    · obtain rfl : k = m := by omega
      have he' := he.out
      rw [List.drop_of_length_le (by have := HL.out; omega)] at he'
      have HE : Hid (L.all (inB n) = true) := he'
      clear he he'
      go_wp2_with fail
      go_ret
      exact ⟨ret_bool HE.out.symm, rfl⟩

set_option maxRecDepth 100000 in
set_option maxHeartbeats 1000000 in
theorem isTable_any (g n cT : Nat) (gs : List Nat) (T : List (List Int)) (w : World) (hn : T.length = n) (hn9 : n ≤ 1048576) (hT9 : ∀ x ∈ T, x.length ≤ 1048576) (h : TabAt w g gs T) :
    Calls Try.prog 48 #[.slice (some ⟨g, 0, none⟩) n cT] w fun e w' => e = .returned (.bool (tabB T)) ∧ w = w' := by
  have HN := Lib.hid hn
  have HT := Lib.hid h
  have H9 := Lib.hid hT9
  have htb : Hid (tabB T = (decide (1 ≤ n) && decide (n ≤ 4) && T.all (rowB n))) := by show _ = _; rw [← hn]; rfl
  clear h hn hT9
  by_cases hs : 1 ≤ n
  rotate_left
  · have hs0 : (n : Int) < 1 := by omega
    have HF : Hid (tabB T = false) := by show _ = _; rw [htb.out]; simp [hs]
    clear hs
    go_enter Try.func48, Try.ntmps48
    go_wp2_with fail
    go_ret
    exact ⟨ret_bool HF.out.symm, rfl⟩
  by_cases hs4 : n ≤ 4
  rotate_left
  · have hs1 : ¬ (n : Int) < 1 := by omega
    have hs5 : (4 : Int) < n := by omega
    have HF : Hid (tabB T = false) := by show _ = _; rw [htb.out]; simp [hs4]
    clear hs hs4
    go_enter Try.func48, Try.ntmps48
    go_wp2_with fail
    go_ret
    exact ⟨ret_bool HF.out.symm, rfl⟩
  have hs1 : ¬ (n : Int) < 1 := by omega
  have hs5 : ¬ (4 : Int) < n := by omega
  have HF : Hid (tabB T = T.all (rowB n)) := by show _ = _; rw [htb.out]; simp [hs, hs4]
  clear htb
  go_enter Try.func48, Try.ntmps48
  go_wp2_with fail
  go_loop [15] (fun i => ∃ k : Nat, i = .int .i64 k ∧ k ≤ n ∧ Hid (T.all (rowB n) = (T.drop k).all (rowB n))) (fun i => n - (intOf i).toNat)
  case atStart => exact ⟨0, rfl, Nat.zero_le _, rfl⟩
  case round =>
    obtain ⟨k, rfl, hk, he⟩ := hrel
    by_cases hlt : k < n
    · have hlt' : (k : Int) < (n : Int) := by omega
      have hkT : k < T.length := by have := HN.out; omega
      obtain ⟨c1, hrd⟩ := HT.out k hkT
      have hq9 := H9.out _ (getD_mem (d := []) hkT)
      have he' := he.out
      rw [all_dropR (rowB n) hkT] at he'
      generalize T.getD k [] = row at c1 hrd hq9 he'
      generalize gs.getD k 0 = gr at c1 hrd
      unfold rowV at c1
      obtain ⟨m, hm⟩ : ∃ m, m = row.length := ⟨_, rfl⟩
      rw [← hm] at c1 hq9
      have hA := fun w (h : ReadI w gr 0 row) => hasAll_any (some ⟨g, 0, none⟩) n cT (some ⟨gr, 0, none⟩) m m row w hm.symm (by omega) (.inr ⟨gr, 0, rfl, h⟩)
      have hrow : rowB n row = (decide (m = n) && row.all (inB n)) := by rw [hm]; rfl
      have HRD := Lib.hid hrd
      clear he hrd hkT hm
      by_cases hmn : m = n
      · have hne : (((m : Nat) : Int) != (n : Nat)) = false := by simp; omega
        cases hal : row.all (inB n) with
        | false =>
          have HE : Hid (T.all (rowB n) = false) := by show _ = _; rw [he', hrow, hal]; simp
          rw [hal] at hA
          clear hal hrow he' hmn
          go_wp2_with fail
          refine (hA _ HRD.out).mono ?_; rintro e w2 ⟨rfl, rfl⟩
          go_wp2_with fail
          go_ret
          exact ⟨ret_bool (by rw [HF.out, HE.out]), rfl⟩
        | true =>
          have HE : Hid (T.all (rowB n) = (T.drop (k + 1)).all (rowB n)) := by show _ = _; rw [he', hrow, hal]; simp [hmn]
          rw [hal] at hA
          clear hal hrow he' hmn
          go_wp2_with fail
          refine (hA _ HRD.out).mono ?_; rintro e w2 ⟨rfl, rfl⟩
          go_wp2_with fail
          go_round
          case rel => exact ⟨k + 1, by go_num, by omega, HE⟩
          case measure => simp [intOf]; omega
      · have hne : (((m : Nat) : Int) != (n : Nat)) = true := by simp; omega
        have HE : Hid (T.all (rowB n) = false) := by show _ = _; rw [he', hrow]; simp [hmn]
        clear hrow he' hmn hA
        go_wp2_with fail
        go_ret
        exact ⟨ret_bool (by rw [HF.out, HE.out]), rfl⟩
    · obtain rfl : k = n := by omega
      have he' := he.out
      rw [List.drop_of_length_le (by have := HN.out; omega)] at he'
      have HE : Hid (T.all (rowB k) = true) := he'
      clear he he'
      go_wp2_with fail
      go_ret
      exact ⟨ret_bool (by rw [HF.out, HE.out]), rfl⟩

set_option maxRecDepth 100000 in
set_option maxHeartbeats 1000000 in
theorem brTable_any (g n cT : Nat) (gs : List Nat) (T : List (List Int)) (w : World) (hn : T.length = n) (hn9 : n ≤ 1048576) (hT9 : ∀ x ∈ T, x.length ≤ 1048576) (h : TabAt w g gs T) :
    Calls Try.prog 44 #[.slice (some ⟨g, 0, none⟩) n cT] w fun e w' => e = .returned (.bool (tabB T)) ∧ w = w' := by
  have HN := Lib.hid hn
  have HT := Lib.hid h
  have H9 := Lib.hid hT9
  have htb : Hid (tabB T = (decide (1 ≤ n) && decide (n ≤ 4) && T.all (rowB n))) := by show _ = _; rw [← hn]; rfl
  clear h hn hT9
  by_cases hs : 1 ≤ n
  rotate_left
  · have hs0 : (n : Int) < 1 := by omega
    have HF : Hid (tabB T = false) := by show _ = _; rw [htb.out]; simp [hs]
    clear hs
    go_enter Try.func44, Try.ntmps44
    go_wp2_with fail
    refine (l1In_no n 1 4 _ (by omega)).mono ?_; rintro e w1 ⟨rfl, rfl⟩
    go_wp2_with fail
    go_ret
    exact ⟨ret_bool HF.out.symm, rfl⟩
  by_cases hs4 : n ≤ 4
  rotate_left
  · have hs1 : ¬ (n : Int) < 1 := by omega
    have hs5 : (4 : Int) < n := by omega
    have HF : Hid (tabB T = false) := by show _ = _; rw [htb.out]; simp [hs4]
    clear hs hs4
    go_enter Try.func44, Try.ntmps44
    go_wp2_with fail
    refine (l1In_no n 1 4 _ (by omega)).mono ?_; rintro e w1 ⟨rfl, rfl⟩
    go_wp2_with fail
    go_ret
    exact ⟨ret_bool HF.out.symm, rfl⟩
  have hs1 : ¬ (n : Int) < 1 := by omega
  have hs5 : ¬ (4 : Int) < n := by omega
  have HF : Hid (tabB T = T.all (rowB n)) := by show _ = _; rw [htb.out]; simp [hs, hs4]
  clear htb
  go_enter Try.func44, Try.ntmps44
  go_wp2_with fail
  refine (l1In_yes n 1 4 _ (by omega) (by omega)).mono ?_; rintro e w1 ⟨rfl, rfl⟩
  go_wp2_with fail
  go_loop [13] (fun i => ∃ k : Nat, i = .int .i64 k ∧ k ≤ n ∧ Hid (T.all (rowB n) = (T.drop k).all (rowB n))) (fun i => n - (intOf i).toNat)
  case atStart => exact ⟨0, rfl, Nat.zero_le _, rfl⟩
  case round =>
    obtain ⟨k, rfl, hk, he⟩ := hrel
    by_cases hlt : k < n
    · have hlt' : (k : Int) < (n : Int) := by omega
      have hkT : k < T.length := by have := HN.out; omega
      obtain ⟨c1, hrd⟩ := HT.out k hkT
      have hq9 := H9.out _ (getD_mem (d := []) hkT)
      have he' := he.out
      rw [all_dropR (rowB n) hkT] at he'
      generalize T.getD k [] = row at c1 hrd hq9 he'
      generalize gs.getD k 0 = gr at c1 hrd
      unfold rowV at c1
      obtain ⟨m, hm⟩ : ∃ m, m = row.length := ⟨_, rfl⟩
      rw [← hm] at c1 hq9
      have hA := fun w (h : ReadI w gr 0 row) => l1AllT_any (some ⟨gr, 0, none⟩) n m m ((n : Int) - 1) rfl row w hm.symm (by omega) (.inr ⟨gr, 0, rfl, h⟩)
      have hrow : rowB n row = (decide (m = n) && row.all (inB n)) := by rw [hm]; rfl
      have HRD := Lib.hid hrd
      clear he hrd hkT hm
      by_cases hmn : m = n
      · have hne : (((m : Nat) : Int) != (n : Nat)) = false := by simp; omega
        cases hal : row.all (inB n) with
        | false =>
          have HE : Hid (T.all (rowB n) = false) := by show _ = _; rw [he', hrow, hal]; simp
          rw [hal] at hA
          clear hal hrow he' hmn
          go_wp2_with fail
          refine (hA _ HRD.out).mono ?_; rintro e w2 ⟨rfl, rfl⟩
          go_wp2_with fail
          go_ret
          exact ⟨ret_bool (by rw [HF.out, HE.out]), rfl⟩
        | true =>
          have HE : Hid (T.all (rowB n) = (T.drop (k + 1)).all (rowB n)) := by show _ = _; rw [he', hrow, hal]; simp [hmn]
          rw [hal] at hA
          clear hal hrow he' hmn
          go_wp2_with fail
          refine (hA _ HRD.out).mono ?_; rintro e w2 ⟨rfl, rfl⟩
          go_wp2_with fail
          go_round
          case rel => exact ⟨k + 1, by go_num, by omega, HE⟩
          case measure => simp [intOf]; omega
      · have hne : (((m : Nat) : Int) != (n : Nat)) = true := by simp; omega
        have HE : Hid (T.all (rowB n) = false) := by show _ = _; rw [he', hrow]; simp [hmn]
        clear hrow he' hmn hA
        go_wp2_with fail
        go_ret
        exact ⟨ret_bool (by rw [HF.out, HE.out]), rfl⟩
    · obtain rfl : k = n := by omega
      have he' := he.out
      rw [List.drop_of_length_le (by have := HN.out; omega)] at he'
      have HE : Hid (T.all (rowB k) = true) := he'
      clear he he'
      go_wp2_with fail
      go_ret
      exact ⟨ret_bool (by rw [HF.out, HE.out]), rfl⟩
end Go.Proofs.Ytkoebmdocenlkab
