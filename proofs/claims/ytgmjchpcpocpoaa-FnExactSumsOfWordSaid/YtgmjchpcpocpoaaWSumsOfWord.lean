/- The walk of laws.FnExactSumsOfWord. -/
import Derived.Test.YtgmjchpcpocpoaaWd4
namespace Go.Proofs.Ytgmjchpcpocpoaa
open Go.RowKit

/-- The sums of a word. -/
def zeroL (x : Int) : Int := if num x = 0 then sgn x else 0
def otherL (x : Int) : Int := if num x = 0 then 0 else sgn x
theorem sumZ_take {L : List Int} {k : Nat} (h : k < L.length) : sumZ (L.take (k + 1)) = sumZ (L.take k) + zeroL (L.getD k 0) := by
  unfold sumZ
  rw [List.take_succ_eq_append_getElem h, List.map_append, List.sum_append]
  simp [h, zeroL]
theorem sumO_take {L : List Int} {k : Nat} (h : k < L.length) : sumO (L.take (k + 1)) = sumO (L.take k) + otherL (L.getD k 0) := by
  unfold sumO
  rw [List.take_succ_eq_append_getElem h, List.map_append, List.sum_append]
  simp [h, otherL]
theorem sums_num (x : Int) : zeroL x = (if (num x == 0) = true then sgn x else 0) ∧ otherL x = (if (num x == 0) = true then 0 else sgn x) := by simp [zeroL, otherL]
theorem sums_abs (x : Int) : zeroL x = (if (absI x == 1) = true then sgn x else 0) ∧ otherL x = (if (absI x == 1) = true then 0 else sgn x) := by
  have hm : (absI x = 1) = (num x = 0) := by unfold num absI; rw [eq_iff_iff]; split <;> omega
  simp [zeroL, otherL, hm]
def SumsOfWord_v (L : List Int) : Value := if goodW L = true then .tuple #[.int .i64 (sumZ L), .int .i64 (sumO L), .bool true] else .tuple #[.int .i64 0, .int .i64 0, .bool false]

set_option maxRecDepth 100000 in
set_option maxHeartbeats 2000000 in
theorem specSumsOfWord_any (v : Value) (b1 : Nat) (L : List Int) (w : World) (hv : CellsI b1 w v L) (_hz : ∀ s ∈ L, -9223372036854775808 ≤ s ∧ s ≤ 9223372036854775807) :
    Calls Try.prog 24 #[v] w (Gives (SumsOfWord_v L) w) := by
  have hG := wdGood_any v b1 L w hv
  unfold SumsOfWord_v
  cases hg : goodW L with
  | false =>
    rw [hg] at hG
    rw [if_neg (by simp)]
    clear hg hv _hz
    go_enter Try.func24, Try.ntmps24
    go_wp2_with fail
    refine hG.mono ?_; rintro e w1 ⟨rfl, rfl⟩
    go_wp2_with fail
    go_ret3
    exact ⟨rfl, Below.refl _ _⟩
  | true =>
    rw [hg] at hG
    rw [if_pos rfl]
    have hg2 := goodW_iff.1 hg
    obtain ⟨oa, cap, rfl, hcl, hcm, hcc⟩ := hv.form
    unfold maxLen at hcm
    have HC := Lib.hid hcc
    have hLn := hg2.1
    have HZ := Lib.hid hg2.2
    clear hcc hg hg2 hv _hz
    go_enter Try.func24, Try.ntmps24
    go_wp2_with fail
    refine hG.mono ?_; rintro e w1 ⟨rfl, rfl⟩
    clear hG
    go_wp2_with fail
    go_loop [5, 6, 15] (fun a b i => ∃ (k : Nat) (y z : Int), i = .int .i64 k ∧ a = .int .i64 y ∧ b = .int .i64 z ∧ k ≤ L.length ∧ -(k : Int) ≤ y ∧ y ≤ k ∧ -(k : Int) ≤ z ∧ z ≤ k ∧ Hid (y = sumZ (L.take k) ∧ z = sumO (L.take k))) (fun _ _ i => L.length - (intOf i).toNat)
    case atStart => exact ⟨0, 0, 0, rfl, rfl, rfl, Nat.zero_le _, by omega, by omega, by omega, by omega, ⟨rfl, rfl⟩⟩
    case round =>
      obtain ⟨k, y, z, rfl, rfl, rfl, hk, hy1, hy2, hz1, hz2, he⟩ := hrel
      by_cases hlt : k < L.length
      · have hlt' : (k : Int) < (L.length : Int) := by omega
        obtain ⟨g, rfl, _, hgl, c1⟩ := HC.out k hlt
        have hxm : L.getD k 0 ∈ L := by rw [List.getD_eq_getElem?_getD, List.getElem?_eq_getElem hlt]; exact List.getElem_mem _
        obtain ⟨hx0, hx1, hx2⟩ := HZ.out _ hxm
        have hs1 := sumZ_take hlt
        have hs2 := sumO_take hlt
        rw [← he.out.1] at hs1
        rw [← he.out.2] at hs2
        generalize L.getD k 0 = x at c1 hx0 hx1 hx2 hs1 hs2
        have HS : Hid (sumZ (L.take (k + 1)) = y + zeroL x ∧ sumO (L.take (k + 1)) = z + otherL x) := ⟨hs1, hs2⟩
        clear hxm he hgl hs1 hs2
        have hA := fun w => l1Abs_any x w (by omega) (by omega)
        have hz := sums_abs x
        have HZL := Lib.hid hz
        clear hz
        by_cases hn : x < 0
        all_goals
          have HN := Lib.hid hn
          cases hq : (absI x == 1)
          all_goals
            have HH := Lib.hid hq
            generalize absI x = q at hA hq
            go_wp2_with fail
            refine (hA _).mono ?_; rintro e w2 ⟨rfl, rfl⟩
            go_wp2_with fail
            go_round
            case rel => exact ⟨k + 1, _, _, by go_num, rfl, rfl, by omega, by omega, by omega, by omega, by omega, by
              have h := HS.out
              have hn := HN.out
              rw [h.1, h.2, HZL.out.1, HZL.out.2, HH.out]
              simp only [sgn, hn, if_true, if_false, reduceCtorEq]
              exact ⟨by omega, by omega⟩⟩
            case measure => simp [intOf]; omega
      · obtain rfl : k = L.length := by omega
        have he' := he.out
        rw [List.take_length] at he'
        have HE := Lib.hid he'
        clear he he'
        go_wp2_with fail
        go_ret3
        rw [← HE.out.1, ← HE.out.2]
        exact ⟨rfl, Below.refl _ _⟩

set_option maxRecDepth 100000 in
set_option maxHeartbeats 2000000 in
theorem implSumsOfWord_any (v : Value) (b1 : Nat) (L : List Int) (w : World) (hv : CellsI b1 w v L) (_hz : ∀ s ∈ L, -9223372036854775808 ≤ s ∧ s ≤ 9223372036854775807) :
    Calls Try.prog 25 #[v] w (Gives (SumsOfWord_v L) w) := by
  have hG := implIsWord_any v b1 L w hv
  unfold SumsOfWord_v
  cases hg : goodW L with
  | false =>
    rw [hg] at hG
    rw [if_neg (by simp)]
    clear hg hv _hz
    go_enter Try.func25, Try.ntmps25
    go_wp2_with fail
    refine hG.mono ?_; rintro e w1 ⟨rfl, rfl⟩
    go_wp2_with fail
    go_ret3
    exact ⟨rfl, Below.refl _ _⟩
  | true =>
    rw [hg] at hG
    rw [if_pos rfl]
    have hg2 := goodW_iff.1 hg
    obtain ⟨oa, cap, rfl, hcl, hcm, hcc⟩ := hv.form
    unfold maxLen at hcm
    have HC := Lib.hid hcc
    have hLn := hg2.1
    have HZ := Lib.hid hg2.2
    clear hcc hg hg2 hv _hz
    go_enter Try.func25, Try.ntmps25
    go_wp2_with fail
    refine hG.mono ?_; rintro e w1 ⟨rfl, rfl⟩
    clear hG
    go_wp2_with fail
    go_loop [5, 6, 15] (fun a b i => ∃ (k : Nat) (y z : Int), i = .int .i64 k ∧ a = .int .i64 y ∧ b = .int .i64 z ∧ k ≤ L.length ∧ -(k : Int) ≤ y ∧ y ≤ k ∧ -(k : Int) ≤ z ∧ z ≤ k ∧ Hid (y = sumZ (L.take k) ∧ z = sumO (L.take k))) (fun _ _ i => L.length - (intOf i).toNat)
    case atStart => exact ⟨0, 0, 0, rfl, rfl, rfl, Nat.zero_le _, by omega, by omega, by omega, by omega, ⟨rfl, rfl⟩⟩
    case round =>
      obtain ⟨k, y, z, rfl, rfl, rfl, hk, hy1, hy2, hz1, hz2, he⟩ := hrel
      by_cases hlt : k < L.length
      · have hlt' : (k : Int) < (L.length : Int) := by omega
        obtain ⟨g, rfl, _, hgl, c1⟩ := HC.out k hlt
        have hxm : L.getD k 0 ∈ L := by rw [List.getD_eq_getElem?_getD, List.getElem?_eq_getElem hlt]; exact List.getElem_mem _
        obtain ⟨hx0, hx1, hx2⟩ := HZ.out _ hxm
        have hs1 := sumZ_take hlt
        have hs2 := sumO_take hlt
        rw [← he.out.1] at hs1
        rw [← he.out.2] at hs2
        generalize L.getD k 0 = x at c1 hx0 hx1 hx2 hs1 hs2
        have HS : Hid (sumZ (L.take (k + 1)) = y + zeroL x ∧ sumO (L.take (k + 1)) = z + otherL x) := ⟨hs1, hs2⟩
        clear hxm he hgl hs1 hs2
        have hA := fun w => numberOf_any x w (by omega) (by omega)
        have hC := fun w => compare_any x w hx0
        have hs : sgn x = 1 ∨ sgn x = -1 := by unfold sgn; split <;> simp
        generalize hS : sgn x = s at hC hs
        have HSS := Lib.hid hS
        clear hS
        cases hq : (num x == 0)
        all_goals
          have HH := Lib.hid hq
          generalize num x = q at hA hq
          go_wp2_with fail
          refine (hC _).mono ?_; rintro e w2 ⟨rfl, rfl⟩
          go_wp2_with fail
          refine (hA _).mono ?_; rintro e w2 ⟨rfl, rfl⟩
          rcases hs with rfl | rfl
          all_goals
            go_wp2_with fail
            go_round
            case rel => exact ⟨k + 1, _, _, by go_num, rfl, rfl, by omega, by omega, by omega, by omega, by omega, by
              have h := HS.out
              have hS := HSS.out
              rw [h.1, h.2, (sums_num x).1, (sums_num x).2, HH.out]
              simp only [hS, if_true, if_false, reduceCtorEq]
              exact ⟨by omega, by omega⟩⟩
            case measure => simp [intOf]; omega
      · obtain rfl : k = L.length := by omega
        have he' := he.out
        rw [List.take_length] at he'
        have HE := Lib.hid he'
        clear he he'
        go_wp2_with fail
        go_ret3
        rw [← HE.out.1, ← HE.out.2]
        exact ⟨rfl, Below.refl _ _⟩

set_option maxRecDepth 100000 in
set_option maxHeartbeats 2000000 in
theorem fnExactSumsOfWord_law (w : World) (oa : Option Addr) (n cap : Nat) (L : List Int) (hl : L.length = n) (hl2 : (n : Int) ≤ 9223372036854775807) (_hz : ∀ s ∈ L, -9223372036854775808 ≤ s ∧ s ≤ 9223372036854775807) (hin : InI w oa L) :
    Calls Try.prog 6 #[.slice oa n cap] w fun e w' => e = .returned (.bool true) ∧ Below w.heap.size w w' := by
  have HI := Lib.hid hin
  have HL := Lib.hid hl
  clear hin hl
  by_cases hbig : (1048576 : Int) < n
  · clear _hz
    go_enter Try.func6, Try.ntmps6
    go_wp2_with fail
    go_ret
    exact ⟨rfl, Below.refl _ _⟩
  have hS : ∀ v b w, CellsI b w v L → Calls Try.prog 24 #[v] w (Gives (SumsOfWord_v L) w) := fun v b w h => specSumsOfWord_any v b L w h _hz
  have hI : ∀ v b w, CellsI b w v L → Calls Try.prog 25 #[v] w (Gives (SumsOfWord_v L) w) := fun v b w h => implSumsOfWord_any v b L w h _hz
  obtain ⟨y0, z0, ok0, hv0⟩ : ∃ y z ok, SumsOfWord_v L = .tuple #[.int .i64 y, .int .i64 z, .bool ok] := by unfold SumsOfWord_v; split <;> exact ⟨_, _, _, rfl⟩
  simp only [hv0] at hS hI
  clear hv0
  have hT := fun w h => toIntS_any oa cap n L w HL.out (by omega) h
  clear _hz
  go_enter Try.func6, Try.ntmps6
  go_wp2_with fail
  refine (hT _ HI.out).mono ?_; rintro e w1 ⟨pg, po, hb1, rfl⟩
  go_wp2_with fail
  refine (hS _ _ _ po.cells).mono ?_; rintro e w2 ⟨rfl, hb2⟩
  have hbw2 := nx hb1 hb2
  clear po hb1 hb2
  go_wp2_with fail
  refine (hT _ (HI.out.keep hbw2)).mono ?_; rintro e w3 ⟨qg, qo, hb3, rfl⟩
  have hbw3 := nx hbw2 hb3
  clear hb3 hbw2
  go_wp2_with fail
  refine (hI _ _ _ qo.cells).mono ?_; rintro e w4 ⟨rfl, hb4⟩
  have hbw4 := nx hbw3 hb4
  replace qo := qo.keep hb4
  clear hb4 hbw3
  go_wp2_with fail
  refine (hT _ (HI.out.keep hbw4)).mono ?_; rintro e w5 ⟨rg, ro, hb5, rfl⟩
  have hbw5 := nx hbw4 hb5
  replace qo := qo.keep hb5
  clear hb5 hbw4
  go_wp2_with fail
  refine (eqIntS_any _ _ _ _ L _ qo.cells ro.cells).mono ?_; rintro e wz ⟨rfl, dz, rfl⟩
  go_wp2_with fail
  go_ret
  exact ⟨rfl, drewB hbw5 _⟩

theorem fnExactSumsOfWord_walk (W : World) (a : Option Addr) (len cap : Nat) (z : List Int) (h : IsInts W a len cap z) :
    Calls Try.prog 6 #[.slice a len cap] W fun e w' => e = .returned (.bool true) ∧ Below W.heap.size W w' := by
  obtain ⟨h1, h2, h3, h4⟩ := h.inI
  exact fnExactSumsOfWord_law W a len cap (z.take len) h2 h3 h4 h1
end Go.Proofs.Ytgmjchpcpocpoaa
