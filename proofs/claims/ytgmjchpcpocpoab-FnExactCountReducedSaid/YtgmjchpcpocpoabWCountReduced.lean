/- The walk of laws.FnExactCountReduced. -/
import Derived.Test.YtgmjchpcpocpoabWAllTrees
import Derived.Test.YtgmjchpcpocpoabBoth
import Derived.Test.YtgmjchpcpocpoabForm
namespace Go.Proofs.Ytgmjchpcpocpoab
open Go.RowKit

/-- How many reduced pairs there are. -/
def crV : Nat → Int
  | 0 => 1
  | 1 => 0
  | 2 => 2
  | 3 => 14
  | 4 => 108
  | _ => 0
/-- The program's count on its way. -/
def crP (n : Nat) : Nat → Int
  | 0 => (listsN 1 n : Int) * listsN 1 n
  | k + 1 => crP n k - crV k * listsN (k + 1) (n - k)
theorem crP_end : ∀ n, n ≤ 4 → crP n n = crV n := by decide +kernel
theorem crP_bd : ∀ n, n ≤ 4 → ∀ k, k ≤ n → -1000 ≤ crP n k ∧ crP n k ≤ 1000 := by decide +kernel
theorem crV_bd : ∀ n, n ≤ 4 → 0 ≤ crV n ∧ crV n ≤ 200 := by decide +kernel
theorem lists_bd4 : ∀ n, n ≤ 4 → listsN 1 n ≤ 14 := by decide +kernel
theorem lists_bdk : ∀ n, n ≤ 4 → ∀ k, k ≤ n → listsN (k + 1) (n - k) ≤ 50 := by decide +kernel
theorem mulN_bd {a : Int} {b : Nat} (h1 : 0 ≤ a) (h2 : a ≤ 200) (h3 : b ≤ 50) : 0 ≤ a * (b : Int) ∧ a * (b : Int) ≤ 10000 := by
  obtain ⟨n, rfl⟩ : ∃ n : Nat, a = n := ⟨a.toNat, by omega⟩
  rw [← Int.natCast_mul]
  have := Nat.mul_le_mul (show n ≤ 200 by omega) h3
  omega

set_option maxRecDepth 100000 in
set_option maxHeartbeats 2000000 in
theorem countReduced_any (n : Nat) : n ≤ 4 → ∀ w : World, Calls Try.prog 69 #[.int .i64 n] w fun e w' => e = .returned (.int .i64 (crV n)) ∧ w = w' := by
  induction n using Nat.strongRecOn with
  | _ n IH =>
    intro hn w
    have hC := fun w => countLists_any 1 n w (by omega) (by omega) (by omega)
    have hLb := lists_bd4 n hn
    have h0 : crP n 0 = (listsN 1 n : Int) * listsN 1 n := rfl
    have hend := crP_end n hn
    have hmb := mulN_bd (a := (listsN 1 n : Int)) (b := listsN 1 n) (by omega) (by omega) (by omega)
    have hIH : ∀ k, k < n → ∀ w, Calls Try.prog 69 #[.int .i64 k] w fun e w' => e = .returned (.int .i64 (crV k)) ∧ w = w' := fun k hk => IH k hk (by omega)
    have HI := Lib.hid hIH
    have H0 := Lib.hid h0
    have HE := Lib.hid hend
    generalize listsN 1 n = A at *
    clear IH hIH h0 hend
    go_enter Try.func69, Try.ntmps69
    go_wp2_with fail
    refine (hC _).mono ?_; rintro e w1 ⟨rfl, rfl⟩
    clear hC
    go_wp2_with fail
    go_loop [4, 12] (fun v i => ∃ k : Nat, i = .int .i64 k ∧ k ≤ n ∧ v = .int .i64 (crP n k)) (fun _ i => n - (intOf i).toNat)
    case atStart => exact ⟨0, rfl, Nat.zero_le _, by rw [H0.out]⟩
    case round =>
      obtain ⟨k, rfl, hk, rfl⟩ := hrel
      by_cases hlt : k < n
      · have hlt' : (k : Int) < (n : Int) := by omega
        have hP := crP_bd n hn k hk
        have hV := crV_bd k (by omega)
        have hB := lists_bdk n hn k hk
        have hM := mulN_bd hV.1 hV.2 hB
        have hS : crP n (k + 1) = crP n k - crV k * listsN (k + 1) (n - k) := rfl
        have hR := HI.out k hlt
        have hL := fun w => countLists_any (k + 1) (n - k) w (by omega) (by omega) (by omega)
        have e2 : ((n - k : Nat) : Int) = (n : Int) - (k : Int) := by omega
        simp only [e2] at hL
        have hL' : ∀ w, Calls Try.prog 56 #[.int .i64 ((k : Int) + 1), .int .i64 ((n : Int) - (k : Int))] w fun e w' => e = .returned (.int .i64 (listsN (k + 1) (n - k))) ∧ w = w' := hL
        have HS := Lib.hid hS
        generalize crP n k = P at *
        generalize crV k = V at *
        generalize listsN (k + 1) (n - k) = B at *
        clear hL e2 hS
        go_wp2_with fail
        refine (hR _).mono ?_; rintro e w2 ⟨rfl, rfl⟩
        go_wp2_with fail
        refine (hL' _).mono ?_; rintro e w2 ⟨rfl, rfl⟩
        go_wp2_with fail
        go_round
        case rel => exact ⟨k + 1, by go_num, by omega, by rw [HS.out]⟩
        case measure => simp [intOf]; omega
      · obtain rfl : k = n := by omega
        rw [HE.out]
        go_wp2_with fail
        go_ret
        exact ⟨rfl, rfl⟩

def CountReduced_o (n : Int) : Option Nat := if 0 ≤ n ∧ n ≤ 4 then some (crV n.toNat).toNat else none
theorem implCountReduced_any (n : Int) (w : World) (_lo : -9223372036854775808 ≤ n) (_hi : n ≤ 9223372036854775807) :
    Calls Try.prog 31 #[.int .i64 n] w (Gives (ansN (CountReduced_o n)) w) := by
  unfold CountReduced_o
  by_cases h0 : n < 0
  · rw [if_neg (by omega)]
    have hd1 : decide (n < 0) = true := by simpa using h0
    clear h0
    go_enter Try.func31, Try.ntmps31
    go_wp2_with fail
    go_ret2
    exact ⟨rfl, Below.refl _ _⟩
  · have hd1 : decide (n < 0) = false := by simpa using h0
    by_cases h5 : 4 < n
    · rw [if_neg (by omega)]
      clear h0
      go_enter Try.func31, Try.ntmps31
      go_wp2_with fail
      go_ret2
      exact ⟨rfl, Below.refl _ _⟩
    · rw [if_pos (by omega)]
      obtain ⟨k, rfl⟩ : ∃ k : Nat, n = k := ⟨n.toNat, by omega⟩
      rw [Int.toNat_natCast]
      have hR := countReduced_any k (by omega)
      have hV := crV_bd k (by omega)
      obtain ⟨V, hVV⟩ : ∃ V : Nat, crV k = V := ⟨(crV k).toNat, by omega⟩
      rw [hVV] at hR hV ⊢
      rw [Int.toNat_natCast]
      clear hVV h0
      go_enter Try.func31, Try.ntmps31
      go_wp2_with fail
      refine (hR _).mono ?_; rintro e w2 ⟨rfl, rfl⟩
      go_wp2_with fail
      go_ret2
      exact ⟨rfl, Below.refl _ _⟩

/-- The model's count. -/
def rowC (t : Tr) (us : List Tr) : Nat := us.countP fun u => (both (t, u)).isEmpty
def totC (ts us : List Tr) : Nat := (ts.map fun t => rowC t us).sum
theorem tot_all : ∀ n, n ≤ 4 → totC (treesN n) (treesN n) = (crV n).toNat := by decide +kernel
theorem trees_bd : ∀ n, n ≤ 4 → (treesN n).length ≤ 14 := by decide +kernel
theorem rowC_take {t : Tr} {us : List Tr} {k : Nat} {u : Tr} (h : us[k]? = some u) : rowC t (us.take (k + 1)) = rowC t (us.take k) + if (both (t, u)).length = 0 then 1 else 0 := by
  obtain ⟨hk, rfl⟩ := List.getElem?_eq_some_iff.1 h
  unfold rowC
  rw [List.take_succ_eq_append_getElem hk, List.countP_append]
  simp [List.countP_cons]
theorem totC_take {ts us : List Tr} {k : Nat} {t : Tr} (h : ts[k]? = some t) : totC (ts.take (k + 1)) us = totC (ts.take k) us + rowC t us := by
  obtain ⟨hk, rfl⟩ := List.getElem?_eq_some_iff.1 h
  unfold totC
  rw [List.take_succ_eq_append_getElem hk, List.map_append, List.sum_append]
  simp
theorem rowC_le (t : Tr) (us : List Tr) : rowC t us ≤ us.length := List.countP_le_length

set_option maxRecDepth 100000 in
set_option maxHeartbeats 4000000 in
theorem specCountReduced_any (n : Int) (w : World) (_lo : -9223372036854775808 ≤ n) (_hi : n ≤ 9223372036854775807) :
    Calls Try.prog 30 #[.int .i64 n] w (Gives (ansN (CountReduced_o n)) w) := by
  unfold CountReduced_o
  by_cases h : 0 ≤ n ∧ n ≤ 4
  · rw [if_pos h]
    obtain ⟨k, rfl⟩ : ∃ k : Nat, n = k := ⟨n.toNat, by omega⟩
    rw [Int.toNat_natCast]
    have h1 : (0 : Int) ≤ k := by omega
    have h2 : (k : Int) ≤ 4 := by omega
    rw [← tot_all k (by omega)]
    have hT := fun w => trList_any k (by omega) w
    have hM := trees_bd k (by omega)
    have hB : ∀ (t u : Tr) (w : World), t ∈ treesN k → u ∈ treesN k → Calls Try.prog 68 #[.agg #[.string t.str, .string u.str]] w (GivesInts (both (t, u)) w) := by
      intro t u w ht hu
      have ct := (mem_treesN k t).1 ht
      have cu := (mem_treesN k u).1 hu
      have := prBoth_any t.str u.str w (by have := t.str_size; omega) (by have := u.str_size; omega)
      rwa [bothL_str (t, u)] at this
    have hX : trTexts k = (treesN k).map Tr.str := rfl
    rw [hX] at hT
    generalize treesN k = L at *
    have HB := Lib.hid hB
    clear h hB hX
    go_enter Try.func30, Try.ntmps30
    go_wp2_with fail
    refine (l1In_yes k 0 4 _ h1 h2).mono ?_; rintro e w1 ⟨rfl, rfl⟩
    go_wp2_with fail
    refine (hT _).mono ?_; rintro e w1 ⟨g, cap, own, hb1, rfl⟩
    have hlm : (L.map Tr.str).length = L.length := List.length_map _
    rw [hlm] at own ⊢
    have HO := Lib.hid own
    clear own hlm
    go_wp2_with fail
    go_loopw [4, 15] (fun v i wr => ∃ (a s : Nat), i = .int .i64 a ∧ v = .int .i64 s ∧ a ≤ L.length ∧ s ≤ 14 * a ∧ Below w1.heap.size w1 wr ∧ Hid (s = totC (L.take a) L)) (fun _ i _ => L.length - (intOf i).toNat)
    case atStart => exact ⟨0, 0, rfl, rfl, Nat.zero_le _, by omega, Below.refl _ _, rfl⟩
    case round =>
      obtain ⟨a, s, rfl, rfl, ha, hs, hbw, he⟩ := hrel
      by_cases hlt : a < L.length
      · have hlt' : (a : Int) < (L.length : Int) := by omega
        obtain ⟨t, ht⟩ : ∃ t, L[a]? = some t := ⟨_, List.getElem?_eq_getElem hlt⟩
        have hcell := CellsS.at (HO.out.keep hbw).cells (i := a) (t := t.str) (by rw [List.getElem?_map, ht]; rfl)
        have htm : t ∈ L := List.mem_of_getElem? ht
        have hstep := totC_take (us := L) ht
        rw [← he.out] at hstep
        have HS := Lib.hid hstep
        clear hstep he ht
        go_wp2_with fail
        refine (hT _).mono ?_; rintro e w2 ⟨g2, cap2, own2, hb2, rfl⟩
        have hlm : (L.map Tr.str).length = L.length := List.length_map _
        rw [hlm] at own2 ⊢
        have HO2 := Lib.hid own2
        have hbw2 := nx hbw hb2
        clear own2 hlm hcell hbw
        go_wp2_with fail
        go_loopw [4, 22] (fun v i wr => ∃ (c q : Nat), i = .int .i64 c ∧ v = .int .i64 ((s + q : Nat) : Int) ∧ c ≤ L.length ∧ q ≤ c ∧ Below w2.heap.size w2 wr ∧ Hid (q = rowC t (L.take c))) (fun _ i _ => L.length - (intOf i).toNat)
        case atStart => exact ⟨0, 0, rfl, rfl, Nat.zero_le _, by omega, Below.refl _ _, rfl⟩
        case round =>
          obtain ⟨c, q, rfl, rfl, hc, hq, hbv, hf⟩ := hrel
          by_cases hlu : c < L.length
          · have hlu' : (c : Int) < (L.length : Int) := by omega
            obtain ⟨u, hu⟩ : ∃ u, L[c]? = some u := ⟨_, List.getElem?_eq_getElem hlu⟩
            have hcell := CellsS.at (HO2.out.keep hbv).cells (i := c) (t := u.str) (by rw [List.getElem?_map, hu]; rfl)
            have hum : u ∈ L := List.mem_of_getElem? hu
            have hstep := rowC_take (t := t) hu
            rw [← hf.out] at hstep
            have hP := fun w => HB.out t u w htm hum
            generalize both (t, u) = bs at *
            have HS2 := Lib.hid hstep
            clear hstep hf hu
            go_wp2_with fail
            refine (hP _).mono ?_; rintro e w4 ⟨v4, own4, hb4, rfl⟩
            obtain ⟨o4, c4, rfl, _, hm4, _⟩ := own4.cells.form
            have hbx := nx hbv hb4
            unfold maxLen at hm4
            clear own4 hb4 hbv hcell
            by_cases hz : bs.length = 0
            · have hz' : ((bs.length : Int) == 0) = true := by rw [beq_iff_eq]; omega
              have h9 := HS2.out
              rw [if_pos hz] at h9
              have HS3 := Lib.hid h9
              clear hz h9
              go_wp2_with fail
              go_roundw
              case rel => exact ⟨c + 1, q + 1, by go_num, by go_num, by omega, by omega, hbx, HS3.out.symm⟩
              case measure => simp [intOf]; omega
            · have hz' : ((bs.length : Int) == 0) = false := by rw [beq_eq_false_iff_ne]; omega
              have h9 := HS2.out
              rw [if_neg hz] at h9
              have HS3 := Lib.hid h9
              clear hz h9
              go_wp2_with fail
              go_roundw
              case rel => exact ⟨c + 1, q, by go_num, rfl, by omega, by omega, hbx, HS3.out.symm⟩
              case measure => simp [intOf]; omega
          · obtain rfl : c = L.length := by omega
            have hf' := hf.out
            rw [List.take_length] at hf'
            have hbz := hbw2.trans (hbv.mono hbw2.size)
            have HX : Hid (s + q = totC (L.take (a + 1)) L) := by show _ = _; rw [HS.out, hf']
            clear hf hf' hbv
            go_wp2_with fail
            go_roundw
            case rel => exact ⟨a + 1, s + q, by go_num, rfl, by omega, by omega, hbz, HX⟩
            case measure => simp [intOf]; omega
      · obtain rfl : a = L.length := by omega
        have he' := he.out
        rw [List.take_length] at he'
        have HX := Lib.hid he'
        have hbz := nx hb1 hbw
        clear he he'
        go_wp2_with fail
        go_ret2
        exact ⟨by rw [← HX.out]; rfl, hbz⟩
  · rw [if_neg h]
    have HN : Hid (n < 0 ∨ 4 < n) := show _ ∨ _ by omega
    clear h
    go_enter Try.func30, Try.ntmps30
    go_wp2_with fail
    refine (l1In_no n 0 4 _ HN.out).mono ?_; rintro e w1 ⟨rfl, rfl⟩
    go_wp2_with fail
    go_ret2
    exact ⟨rfl, Below.refl _ _⟩

theorem fnExactCountReduced_walk (a : Int) (ha : (Lit.int .i64 a).wf = true) (w : World) :
    Calls Try.prog 9 #[.int .i64 a] w fun e w' => e = .returned (.bool true) ∧ Below w.heap.size w w' := by
  obtain ⟨loa, hia⟩ := i64_bounds ha
  go_enter Try.func9, Try.ntmps9
  go_wp2_with fail
  refine (specCountReduced_any a _  loa hia).mono ?_; rintro e w1 ⟨rfl, hb1⟩
  unfold ansN
  go_wp2_with fail
  refine (implCountReduced_any a _  loa hia).mono ?_; rintro e w2 ⟨rfl, hb2⟩
  unfold ansN
  go_wp2_with fail
  go_ret
  exact ⟨rfl, nx hb1 hb2⟩
end Go.Proofs.Ytgmjchpcpocpoab
