/- The walk of laws.FnExactTreeOfExponents. -/
import Derived.Test.YtgmjchpcpocpoabTh
import Derived.Test.YtgmjchpcpocpoabCount
namespace Go.Proofs.Ytgmjchpcpocpoab
open Go.RowKit

theorem comb_str (T : Tr) : ⟨#[40]⟩ ++ T.str ++ ⟨#[46]⟩ ++ ⟨#[41]⟩ = (Tr.nd T .lf).str := by
  apply ba_ext
  simp [Tr.str, Tr.text]

set_option maxRecDepth 100000 in
set_option maxHeartbeats 4000000 in
theorem implTreeOfExponents_any (v : Value) (b1 : Nat) (L : List Int) (w : World) (hv : CellsI b1 w v L) (_hz : ∀ s ∈ L, -9223372036854775808 ≤ s ∧ s ≤ 9223372036854775807) :
    Calls Try.prog 20 #[v] w (Gives (ansV (TreeOfExponents_o L)) w) := by
  have hA := areExponents_any v b1 L w hv
  obtain ⟨oa, cap, rfl, hcl, hcm, hcc⟩ := hv.form
  unfold maxLen at hcm
  have HC := Lib.hid hcc
  unfold TreeOfExponents_o
  clear hv _hz hcc
  cases hok : exOk L with
  | false =>
    rw [hok] at hA
    rw [if_neg (by simp)]
    clear hok
    go_enter Try.func20, Try.ntmps20
    go_wp2_with fail
    refine hA.mono ?_; rintro e w1 ⟨rfl, rfl⟩
    go_wp2_with fail
    go_ret2
    exact ⟨rfl, Below.refl _ _⟩
  | true =>
    rw [hok] at hA
    rw [if_pos rfl]
    obtain ⟨hl9, hp, hlast⟩ := exOk_iff.1 hok
    have htree := foldE_tree (toN L) (toN_end hlast hp)
    have HP := Lib.hid hp
    have HT := Lib.hid htree
    clear hok hp hlast htree
    go_enter Try.func20, Try.ntmps20
    go_wp2_with fail
    refine hA.mono ?_; rintro e w1 ⟨rfl, rfl⟩
    clear hA
    go_wp2_with fail
    go_loopw [4, 16] (fun t i wr => ∃ (k : Nat) (T : Tr), i = .int .i64 k ∧ k ≤ L.length ∧ t = .string T.str ∧ T.carets ≤ 8 ∧ Below w.heap.size w wr ∧ Hid (InvE ((toN L).take k) T ∧ foldE .lf 0 (toN L) = foldE T k ((toN L).drop k))) (fun _ i _ => L.length - (intOf i).toNat)
    case atStart => exact ⟨0, .lf, rfl, Nat.zero_le _, rfl, Nat.zero_le _, Below.refl _ _, ⟨.inl ⟨rfl, rfl⟩, rfl⟩⟩
    case round =>
      obtain ⟨k, T, rfl, hk, rfl, hT8, hbw, hI⟩ := hrel
      by_cases hlt : k < L.length
      · have hlt' : (k : Int) < (L.length : Int) := by omega
        obtain ⟨g, rfl, _, hgl, c1⟩ := HC.out k hlt
        replace c1 := (hbw.cell (p := ⟨g, k, none⟩) hgl).trans c1
        have hxm : L.getD k 0 ∈ L := by rw [List.getD_eq_getElem?_getD, List.getElem?_eq_getElem hlt]; exact List.getElem_mem _
        obtain ⟨hx1, hx2⟩ := HP.out _ hxm
        have hdr := toN_drop hlt
        have htk : (toN L).take (k + 1) = (toN L).take k ++ [(L.getD k 0).toNat] := by
          have hl : k < (toN L).length := by rw [toN_length]; exact hlt
          rw [List.take_succ_eq_append_getElem hl]
          have h9 := hdr
          rw [List.drop_eq_getElem_cons hl] at h9
          injection h9 with h9 _
          rw [h9]
        generalize L.getD k 0 = x at c1 hx1 hx2 hdr htk
        obtain ⟨y, rfl⟩ : ∃ y : Nat, x = y := ⟨x.toNat, by omega⟩
        rw [Int.toNat_natCast] at hdr htk
        obtain ⟨hinv, hfold⟩ := hI.out
        have hAl : ((toN L).take k).length = k := by rw [List.length_take, toN_length]; omega
        have hkc : k ≤ T.carets := by have := invE_carets hinv; rw [hAl] at this; exact this
        have hst := invE_step hinv y
        rw [hAl, ← htk] at hst
        have hfold2 : foldE .lf 0 (toN L) = foldE (stepE T k y) (k + 1) ((toN L).drop (k + 1)) := by rw [hfold, hdr, foldE]
        have hmono : (stepE T k y).carets ≤ (foldE .lf 0 (toN L)).carets := by
          have h9 := foldE_carets ((toN L).drop (k + 1)) _ _ hst
          rw [htk, List.length_append, hAl] at h9
          rw [hfold2]
          exact h9
        have hNX : Hid (InvE ((toN L).take (k + 1)) (stepE T k y) ∧ foldE .lf 0 (toN L) = foldE (stepE T k y) (k + 1) ((toN L).drop (k + 1))) := ⟨hst, hfold2⟩
        have hBIG : Hid (8 < (stepE T k y).carets → lim (treeE (toN L)) = none) := by
          intro h9
          rw [← HT.out]
          unfold lim
          rw [if_neg (by omega)]
        have hLC : ∀ w, Calls Try.prog 51 #[.int .i64 (y : Int)] w (Gives (.tuple #[.string (lcT y).str, .bool true]) w) := by
          intro w
          have h9 := implLeftComb_any (y : Int) w (by omega) (by omega)
          unfold combO at h9
          rw [if_pos (by omega), Int.toNat_natCast, lcomb_lcT] at h9
          exact h9
        have hCC := fun w => countCarets_any T w (by omega)
        have hcs := (lcT y).str_size
        rw [lcT_carets] at hcs
        have hTs := T.str_size
        clear hxm hdr htk hI hinv hfold hAl hst hfold2 hmono
        by_cases hkl : k = T.carets
        · have hse : stepE T k y = T.graft k (.nd (lcT y) .lf) := by unfold stepE; rw [if_pos hkl]
          have hGA := fun w => implGraftAt_any T.str k (Tr.nd (lcT y) .lf).str w (by omega) (by rw [Tr.str_size]; simp [Tr.carets, lcT_carets]; omega) (by omega) (by omega)
          rw [graft_ok T _ k hT8 hkc, ← hse] at hGA
          have hcs2 := (stepE_carets T k y hkc).2.1 hkl
          have hcu : (Tr.nd (lcT y) .lf).carets = y + 1 := by simp [Tr.carets, lcT_carets]
          rw [hcu] at hGA
          have hq : ((k : Int) == (T.carets : Int)) = true := by rw [beq_iff_eq]; omega
          have hcj := comb_str (lcT y)
          by_cases hb : T.carets + (y + 1) ≤ 8
          · rw [if_pos hb] at hGA
            unfold ans2 at hGA
            simp only [Option.getD_some, Option.isSome_some] at hGA
            generalize stepE T k y = T2 at *
            have HCJ := Lib.hid hcj
            clear hcj
            clear hBIG hse hkl
            go_wp2_with fail
            refine (hLC _).mono ?_; rintro e w2 ⟨rfl, hb2⟩
            go_wp2_with fail
            refine (hCC _).mono ?_; rintro e w3 ⟨rfl, hb3⟩
            go_wp2_with fail
            rw [HCJ.out]
            refine (hGA _).mono ?_; rintro e w4 ⟨rfl, hb4⟩
            have hb9 := nx (nx (nx hbw hb2) hb3) hb4
            go_wp2_with fail
            go_roundw
            case rel => exact ⟨k + 1, T2, by go_num, by omega, rfl, by omega, hb9, hNX⟩
            case measure => simp [intOf]; omega
          · rw [if_neg hb] at hGA
            have hnone := hBIG.out (by omega)
            have HN := Lib.hid hnone
            unfold ans2 at hGA
            simp only [Option.getD_none, Option.isSome_none] at hGA
            have HCJ := Lib.hid hcj
            clear hcj
            clear hBIG hse hkl hnone hNX hcs2
            go_wp2_with fail
            refine (hLC _).mono ?_; rintro e w2 ⟨rfl, hb2⟩
            go_wp2_with fail
            refine (hCC _).mono ?_; rintro e w3 ⟨rfl, hb3⟩
            go_wp2_with fail
            rw [HCJ.out]
            refine (hGA _).mono ?_; rintro e w4 ⟨rfl, hb4⟩
            have hb9 := nx (nx (nx hbw hb2) hb3) hb4
            go_wp2_with fail
            go_ret2
            exact ⟨by rw [HN.out]; rfl, hb9⟩
        · have hse : stepE T k y = T.graft k (lcT y) := by unfold stepE; rw [if_neg hkl]
          have hGA := fun w => implGraftAt_any T.str k (lcT y).str w (by omega) (by rw [Tr.str_size, lcT_carets]; omega) (by omega) (by omega)
          rw [graft_ok T _ k hT8 hkc, ← hse] at hGA
          have hcs2 : (stepE T k y).carets = T.carets + y := by
            rw [hse, graft_carets T _ k (by omega) (by simp [Tr.leaves]; omega), lcT_carets]
          rw [lcT_carets] at hGA
          have hq : ((k : Int) == (T.carets : Int)) = false := by rw [beq_eq_false_iff_ne]; omega
          by_cases hb : T.carets + y ≤ 8
          · rw [if_pos hb] at hGA
            unfold ans2 at hGA
            simp only [Option.getD_some, Option.isSome_some] at hGA
            generalize stepE T k y = T2 at *
            skip
            clear hBIG hse hkl
            go_wp2_with fail
            refine (hLC _).mono ?_; rintro e w2 ⟨rfl, hb2⟩
            go_wp2_with fail
            refine (hCC _).mono ?_; rintro e w3 ⟨rfl, hb3⟩
            go_wp2_with fail
            refine (hGA _).mono ?_; rintro e w4 ⟨rfl, hb4⟩
            have hb9 := nx (nx (nx hbw hb2) hb3) hb4
            go_wp2_with fail
            go_roundw
            case rel => exact ⟨k + 1, T2, by go_num, by omega, rfl, by omega, hb9, hNX⟩
            case measure => simp [intOf]; omega
          · rw [if_neg hb] at hGA
            have hnone := hBIG.out (by omega)
            have HN := Lib.hid hnone
            unfold ans2 at hGA
            simp only [Option.getD_none, Option.isSome_none] at hGA
            skip
            clear hBIG hse hkl hnone hNX hcs2
            go_wp2_with fail
            refine (hLC _).mono ?_; rintro e w2 ⟨rfl, hb2⟩
            go_wp2_with fail
            refine (hCC _).mono ?_; rintro e w3 ⟨rfl, hb3⟩
            go_wp2_with fail
            refine (hGA _).mono ?_; rintro e w4 ⟨rfl, hb4⟩
            have hb9 := nx (nx (nx hbw hb2) hb3) hb4
            go_wp2_with fail
            go_ret2
            exact ⟨by rw [HN.out]; rfl, hb9⟩
      · obtain rfl : k = L.length := by omega
        have hfin : treeE (toN L) = T := by
          have h9 := hI.out.2
          rw [HT.out, List.drop_of_length_le (by rw [toN_length]; exact Nat.le_refl _)] at h9
          exact h9
        have HF := Lib.hid hfin
        clear hI hfin
        go_wp2_with fail
        go_ret2
        exact ⟨by rw [HF.out, lim, if_pos hT8]; rfl, hbw⟩

set_option maxRecDepth 100000 in
set_option maxHeartbeats 2000000 in
theorem fnExactTreeOfExponents_law (w : World) (oa : Option Addr) (n cap : Nat) (L : List Int) (hl : L.length = n) (hl2 : (n : Int) ≤ 9223372036854775807) (_hz : ∀ s ∈ L, -9223372036854775808 ≤ s ∧ s ≤ 9223372036854775807) (hin : InI w oa L) :
    Calls Try.prog 5 #[.slice oa n cap] w fun e w' => e = .returned (.bool true) ∧ Below w.heap.size w w' := by
  have HI := Lib.hid hin
  have HL := Lib.hid hl
  clear hin hl
  by_cases hbig : (1048576 : Int) < n
  · clear _hz
    go_enter Try.func5, Try.ntmps5
    go_wp2_with fail
    go_ret
    exact ⟨rfl, Below.refl _ _⟩
  have hS : ∀ v b w, CellsI b w v L → Calls Try.prog 19 #[v] w (Gives (ansV (TreeOfExponents_o L)) w) := fun v b w h => specTreeOfExponents_any v b L w h _hz
  have hI : ∀ v b w, CellsI b w v L → Calls Try.prog 20 #[v] w (Gives (ansV (TreeOfExponents_o L)) w) := fun v b w h => implTreeOfExponents_any v b L w h _hz
  generalize TreeOfExponents_o L = o at hS hI
  unfold ansV at hS hI
  have hT := fun w h => toIntS_any oa cap n L w HL.out (by omega) h
  clear _hz
  go_enter Try.func5, Try.ntmps5
  go_wp2_with fail
  refine (hT _ HI.out).mono ?_; rintro e w1 ⟨pg, po, hb1, rfl⟩
  go_wp2_with fail
  refine (hS _ _ _ po.cells).mono ?_; rintro e w2 ⟨rfl, hb2⟩
  have hbw2 := nx hb1 hb2
  clear po hb1 hb2
  go_wp2_with fail
  refine (hT _ (HI.out.keep hbw2)).mono ?_; rintro e w3 ⟨qg, qo, hb3, rfl⟩
  have hbw3 := nx hbw2 hb3
  clear hb3 hbw2
  go_wp2_with fail
  refine (hI _ _ _ qo.cells).mono ?_; rintro e w4 ⟨rfl, hb4⟩
  have hbw4 := nx hbw3 hb4
  replace qo := qo.keep hb4
  clear hb4 hbw3
  go_wp2_with fail
  refine (hT _ (HI.out.keep hbw4)).mono ?_; rintro e w5 ⟨rg, ro, hb5, rfl⟩
  have hbw5 := nx hbw4 hb5
  replace qo := qo.keep hb5
  clear hb5 hbw4
  go_wp2_with fail
  refine (eqIntS_any _ _ _ _ L _ qo.cells ro.cells).mono ?_; rintro e wz ⟨rfl, dz, rfl⟩
  go_wp2_with fail
  go_ret
  exact ⟨rfl, drewB hbw5 _⟩

theorem fnExactTreeOfExponents_walk (W : World) (a : Option Addr) (len cap : Nat) (z : List Int) (h : IsInts W a len cap z) :
    Calls Try.prog 5 #[.slice a len cap] W fun e w' => e = .returned (.bool true) ∧ Below W.heap.size W w' := by
  obtain ⟨h1, h2, h3, h4⟩ := h.inI
  exact fnExactTreeOfExponents_law W a len cap (z.take len) h2 h3 h4 h1
end Go.Proofs.Ytgmjchpcpocpoab
