/- Walks: impl.IsForest, spec.foGood, spec.foCarets. -/
import Derived.Test.YtplmbdljhgicfaaFf1
namespace Go.Proofs.Ytplmbdljhgicfaa
open Go.RowKit

theorem okTs_contains {L : List ByteArray} : (okTs L).contains false = (treesOf L).isNone := by
  induction L with
  | nil => rfl
  | cons s L ih =>
    show ((treeOf s).isSome :: okTs L).contains false = _
    rw [List.contains_cons, ih, treesOf]
    cases treeOf s with
    | none => rfl
    | some t => cases treesOf L <;> rfl

set_option maxRecDepth 100000 in
set_option maxHeartbeats 400000 in
theorem implIsForest_b (v : Value) (b : Nat) (L : List ByteArray) (w : World) (h : CellsS b w v L) (hz : ∀ s ∈ L, s.size ≤ 1048576) (_hn : L.length ≤ 1048576) :
    Calls Try.prog 16 #[v] w (Gives (.bool (forOf L).isSome) w) := by
  have hcall : ∀ (args : Array Value) (w : World), (callFunc 44 args).run Try.prog w = .ok (.enter 44 args) w := by intro args w; rfl
  have HH := Lib.hid h
  obtain ⟨oa, cap, rfl, hcl, hcm, hcc⟩ := h.form0
  unfold maxLen at hcm
  have HC := Lib.hid hcc
  clear h hcc
  by_cases h8 : (8 : Int) < L.length
  · rw [forOf_long (L := L) (by omega)]
    show Calls _ _ _ _ (Gives (.bool false) w)
    clear hz
    go_enter Try.func16, Try.ntmps16
    go_wp2_with fail
    go_ret
    exact ⟨rfl, Below.refl _ _⟩
  · have hl8 : L.length ≤ 8 := by omega
    have hL := fun w h => listOfTree_any (.slice oa L.length cap) b L w h hz hl8 hcall
    have hlen : (okTs L).length ≤ 8 := by simp [okTs]; omega
    have hcon := okTs_contains (L := L)
    cases ht : treesOf L with
    | none =>
      rw [show forOf L = none by unfold forOf; rw [ht]; rfl]
      rw [ht] at hcon
      show Calls _ _ _ _ (Gives (.bool false) w)
      generalize okTs L = xs at hL hlen hcon
      have HX := Lib.hid hcon
      clear hcon ht hz hcall
      go_enter Try.func16, Try.ntmps16
      go_wp2_with fail
      refine (hL _ HH.out).mono ?_; rintro e w1 ⟨v1, own1, hb1, rfl⟩
      go_wp2_with fail
      refine (containsB_any v1 _ xs _ own1.cells hlen).mono ?_; rintro e w2 ⟨rfl, rfl⟩
      rw [HX.out]
      go_wp2_with fail
      go_ret
      exact ⟨rfl, hb1⟩
    | some us =>
      have hus := (treesOf_some L us ht).1
      have hul := treesOf_length ht
      have hcar : ∀ u ∈ us, u.carets ≤ 8 := (treesOf_some L us ht).2
      have hsum : sumT us ≤ 8 * us.length := by
        clear hus hul ht
        induction us with
        | nil => simp [sumT]
        | cons u us ih =>
          have h1 := hcar u (by simp)
          have h2 := ih (fun x hx => hcar x (by simp [hx]))
          rw [sumT_cons, List.length_cons]; omega
      rw [ht] at hcon
      have hC := fun w h => caretsIn_any (.slice oa L.length cap) b us w h (by omega) (by omega)
      have hcs : ∀ w, CellsS b w (.slice oa L.length cap) L → CellsS b w (.slice oa L.length cap) (strs us) := fun w h => by rw [show strs us = L from hus.symm]; exact h
      have hres : L.length = 0 ∨ ((L.getD (L.length - 1) ⟨#[]⟩).toList == [46]) = false → (forOf L).isSome = decide (sumT us ≤ 8) := fun k => forOf_of ht hl8 k
      have hdot : 0 < L.length → ((L.getD (L.length - 1) ⟨#[]⟩).toList == [46]) = true → forOf L = none := fun a b => forOf_dot a b
      have hsb : sumT us ≤ 1000 := by omega
      have HR := Lib.hid hres
      have HD := Lib.hid hdot
      have HSC := Lib.hid hcs
      generalize okTs L = xs at hL hlen hcon
      generalize sumT us = n at *
      have HX := Lib.hid hcon
      clear hcon ht hz hcall hus hul hcar hsum hres hdot hcs
      by_cases hn8 : (n : Int) ≤ 8
      rotate_left
      · have HF : Hid ((forOf L).isSome = false) := by
          show (forOf L).isSome = false
          by_cases h0 : L.length = 0
          · rw [HR.out (.inl h0)]; simp; omega
          · cases hx : ((L.getD (L.length - 1) ⟨#[]⟩).toList == [46]) with
            | true => rw [HD.out (by omega) hx]; rfl
            | false => rw [HR.out (.inr hx)]; simp; omega
        clear HR HD HC
        go_enter Try.func16, Try.ntmps16
        go_wp2_with fail
        refine (hL _ HH.out).mono ?_; rintro e w1 ⟨v1, own1, hb1, rfl⟩
        go_wp2_with fail
        refine (containsB_any v1 _ xs _ own1.cells hlen).mono ?_; rintro e w2 ⟨rfl, rfl⟩
        rw [HX.out]
        go_wp2_with fail
        refine (hC _ (HSC.out _ (HH.out.keep hb1))).mono ?_; rintro e w3 ⟨rfl, hb3⟩
        go_wp2_with fail
        go_ret
        exact ⟨by rw [HF.out]; rfl, nx hb1 hb3⟩
      by_cases h0 : L.length = 0
      · have HF : Hid ((forOf L).isSome = true) := by show (forOf L).isSome = true; rw [HR.out (.inl h0)]; simp; omega
        have hd0 : ((L.length : Int) == 0) = true := by simp [h0]
        clear HR HD HC h0
        go_enter Try.func16, Try.ntmps16
        go_wp2_with fail
        refine (hL _ HH.out).mono ?_; rintro e w1 ⟨v1, own1, hb1, rfl⟩
        go_wp2_with fail
        refine (containsB_any v1 _ xs _ own1.cells hlen).mono ?_; rintro e w2 ⟨rfl, rfl⟩
        rw [HX.out]
        go_wp2_with fail
        refine (hC _ (HSC.out _ (HH.out.keep hb1))).mono ?_; rintro e w3 ⟨rfl, hb3⟩
        go_wp2_with fail
        go_ret
        exact ⟨by rw [HF.out]; rfl, nx hb1 hb3⟩
      · have hp0 : 0 < L.length := by omega
        have hd0 : ((L.length : Int) == 0) = false := by rw [beq_eq_false_iff_ne]; omega
        obtain ⟨g, rfl, _, hgl, c0⟩ := HC.out (L.length - 1) (by omega)
        have ei : (L.length : Int) - 1 = ((L.length - 1 : Nat) : Int) := by omega
        have hi9 : L.length - 1 < L.length := by omega
        have HRR := HR.out
        have HDD := HD.out
        generalize L.getD (L.length - 1) ⟨#[]⟩ = x at *
        obtain ⟨m, hm⟩ : ∃ m, m = L.length - 1 := ⟨_, rfl⟩
        rw [← hm] at c0 ei hi9
        have HM := Lib.hid hm
        clear hm HR HD HC h0
        have hd1 : (0 : Int) ≤ (m : Int) := by omega
        have hd2 : (m : Int) < (L.length : Int) := by omega
        cases hx : (x.toList == [46]) with
        | true =>
          have HF : Hid ((forOf L).isSome = false) := by show (forOf L).isSome = false; rw [HDD hp0 hx]; rfl
          clear HRR HDD
          go_enter Try.func16, Try.ntmps16
          go_wp2_with fail
          refine (hL _ HH.out).mono ?_; rintro e w1 ⟨v1, own1, hb1, rfl⟩
          go_wp2_with fail
          refine (containsB_any v1 _ xs _ own1.cells hlen).mono ?_; rintro e w2 ⟨rfl, rfl⟩
          rw [HX.out]
          go_wp2_with fail
          refine (hC _ (HSC.out _ (HH.out.keep hb1))).mono ?_; rintro e w3 ⟨rfl, hb3⟩
          have c1 := ((nx hb1 hb3).cell (p := ⟨g, m, none⟩) hgl).trans c0
          go_wp2_with fail
          go_ret
          exact ⟨by rw [HF.out]; rfl, nx hb1 hb3⟩
        | false =>
          have HF : Hid ((forOf L).isSome = true) := by show (forOf L).isSome = true; rw [HRR (.inr hx)]; simp; omega
          clear HRR HDD
          go_enter Try.func16, Try.ntmps16
          go_wp2_with fail
          refine (hL _ HH.out).mono ?_; rintro e w1 ⟨v1, own1, hb1, rfl⟩
          go_wp2_with fail
          refine (containsB_any v1 _ xs _ own1.cells hlen).mono ?_; rintro e w2 ⟨rfl, rfl⟩
          rw [HX.out]
          go_wp2_with fail
          refine (hC _ (HSC.out _ (HH.out.keep hb1))).mono ?_; rintro e w3 ⟨rfl, hb3⟩
          have c1 := ((nx hb1 hb3).cell (p := ⟨g, m, none⟩) hgl).trans c0
          go_wp2_with fail
          go_ret
          exact ⟨by rw [HF.out]; rfl, nx hb1 hb3⟩

/-- The trees of a forest, and what of a list that is none. -/
theorem forOf_none_or (L : List ByteArray) : forOf L = none ∨ ∃ us, forOf L = some us := by
  cases forOf L with
  | none => exact .inl rfl
  | some us => exact .inr ⟨us, rfl⟩

theorem trLeaf_raw (s : ByteArray) (w : World) : Calls Try.prog 73 #[.string s] w fun e w' => e = .returned (.bool (s.toList == [46])) ∧ w = w' := by
  go_enter Try.func73, Try.ntmps73
  go_wp2_with fail
  go_ret
  exact ⟨rfl, rfl⟩

set_option maxRecDepth 100000 in
set_option maxHeartbeats 2000000 in
theorem foGood_any (v : Value) (b : Nat) (L : List ByteArray) (w : World) (h : CellsS b w v L) (hz : ∀ s ∈ L, s.size ≤ 1048576) (_hn : L.length ≤ 1048576) :
    Calls Try.prog 41 #[v] w (Gives (.bool (forOf L).isSome) w) := by
  obtain ⟨oa, cap, rfl, hcl, hcm, hcc⟩ := h.form0
  unfold maxLen at hcm
  have HC := Lib.hid hcc
  have HZ := Lib.hid hz
  clear h hcc hz
  by_cases h8 : (8 : Int) < L.length
  · rw [forOf_long (L := L) (by omega)]
    show Calls _ _ _ _ (Gives (.bool false) w)
    go_enter Try.func41, Try.ntmps41
    go_wp2_with fail
    go_ret
    exact ⟨rfl, Below.refl _ _⟩
  · by_cases h0 : L.length = 0
    · obtain rfl := List.length_eq_zero_iff.1 h0
      rw [show (forOf []).isSome = true from rfl]
      clear HC HZ h0
      go_enter Try.func41, Try.ntmps41
      go_wp2_with fail
      go_loopw [3, 25] (fun c i wr => c = .int .i64 0 ∧ i = .int .i64 0 ∧ wr = w) (fun _ _ _ => 0)
      case atStart => exact ⟨rfl, rfl, rfl⟩
      case round =>
        obtain ⟨rfl, rfl, rfl⟩ := hrel
        go_wp2_with fail
        go_ret
        exact ⟨rfl, Below.refl _ _⟩
    · obtain ⟨g, rfl, _, hgl, c0⟩ := HC.out (L.length - 1) (by omega)
      have hp0 : (0 : Int) < (L.length : Int) := by omega
      have ei : (L.length : Int) - 1 = ((L.length - 1 : Nat) : Int) := by omega
      have hi9 : L.length - 1 < L.length := by omega
      have HDOT : ((L.getD (L.length - 1) ⟨#[]⟩).toList == [46]) = true → forOf L = none := fun hh => forOf_dot (by omega) hh
      have HOK : ∀ us, treesOf L = some us → ((L.getD (L.length - 1) ⟨#[]⟩).toList == [46]) = false → (forOf L).isSome = decide (sumT us ≤ 8) := fun us h1 h2 => forOf_of h1 (by omega) (.inr h2)
      have hT := fun w => trLeaf_raw (L.getD (L.length - 1) ⟨#[]⟩) w
      generalize L.getD (L.length - 1) ⟨#[]⟩ = x at *
      obtain ⟨m, hm⟩ : ∃ m, m = L.length - 1 := ⟨_, rfl⟩
      rw [← hm] at c0 ei hi9
      have hd1 : (0 : Int) ≤ (m : Int) := by omega
      have hd2 : (m : Int) < (L.length : Int) := by omega
      clear hm h0
      cases hx : (x.toList == [46]) with
      | true =>
        have HF : Hid (forOf L = none) := HDOT hx
        rw [hx] at hT
        clear HDOT HOK HC hx
        go_enter Try.func41, Try.ntmps41
        go_wp2_with fail
        refine (hT _).mono ?_; rintro e w1 ⟨rfl, rfl⟩
        go_wp2_with fail
        go_ret
        exact ⟨by rw [HF.out]; rfl, Below.refl _ _⟩
      | false =>
        rw [hx] at hT HOK
        have HK := Lib.hid HOK
        clear HDOT HOK hx
        go_enter Try.func41, Try.ntmps41
        go_wp2_with fail
        refine (hT _).mono ?_; rintro e w1 ⟨rfl, rfl⟩
        clear c0 hT
        go_wp2_with fail
        go_loopw [3, 25] (fun c i wr => ∃ (k n : Nat) (us : List Tr), k ≤ L.length ∧ i = .int .i64 k ∧ c = .int .i64 n ∧ Hid (treesOf (L.take k) = some us ∧ n = sumT us) ∧ n ≤ 8 * k ∧ wr = w) (fun _ i _ => L.length - (intOf i).toNat)
        case atStart => exact ⟨0, 0, [], Nat.zero_le _, rfl, rfl, ⟨rfl, rfl⟩, by omega, rfl⟩
        case round =>
          obtain ⟨k, n, us, hk, rfl, rfl, he, hnn, rfl⟩ := hrel
          by_cases hlt : k < L.length
          · have hlt' : (k : Int) < (L.length : Int) := by omega
            obtain ⟨g', eg, _, _, c1⟩ := HC.out k hlt
            obtain rfl : g = g' := by simpa using eg
            clear eg
            have hmem : L.getD k ⟨#[]⟩ ∈ L := by rw [List.getD_eq_getElem?_getD, List.getElem?_eq_getElem hlt]; exact List.getElem_mem hlt
            have hsz := HZ.out _ hmem
            have htk : L.take (k + 1) = L.take k ++ [L.getD k ⟨#[]⟩] := by rw [List.take_succ_eq_append_getElem hlt]; simp [hlt]
            have hbad : treeOf (L.getD k ⟨#[]⟩) = none → forOf L = none := fun hh => forOf_bad hmem hh
            generalize L.getD k ⟨#[]⟩ = s at *
            have hTR := fun w => trIs_any s w (by omega)
            rw [isTreeB_eq] at hTR
            cases ht : treeOf s with
            | none =>
              have HF : Hid (forOf L = none) := hbad ht
              rw [ht] at hTR
              have hTR' : ∀ w, Calls Try.prog 74 #[.string s] w fun e w' => e = .returned (.bool false) ∧ w = w' := hTR
              clear hTR hbad ht htk hmem he
              go_wp2_with fail
              refine (hTR' _).mono ?_; rintro e w2 ⟨rfl, rfl⟩
              go_wp2_with fail
              go_ret
              exact ⟨by rw [HF.out]; rfl, Below.refl _ _⟩
            | some t =>
              obtain ⟨rfl, hct⟩ := treeOf_some ht
              rw [ht] at hTR
              have hTR' : ∀ w, Calls Try.prog 74 #[.string t.str] w fun e w' => e = .returned (.bool true) ∧ w = w' := hTR
              have hnext := treesOf_snoc _ _ _ _ he.out.1 ht
              rw [← htk] at hnext
              have hsum : n + t.carets = sumT (us ++ [t]) := by rw [sumT_app, ← he.out.2]; simp [sumT]
              have HN : Hid (treesOf (L.take (k + 1)) = some (us ++ [t]) ∧ n + t.carets = sumT (us ++ [t])) := ⟨hnext, hsum⟩
              have hCT := fun w => carets_str t w (by omega)
              clear hTR hbad ht htk hmem he hnext hsum hsz
              go_wp2_with fail
              refine (hTR' _).mono ?_; rintro e w2 ⟨rfl, rfl⟩
              go_wp2_with fail
              refine (hCT _).mono ?_; rintro e w2 ⟨rfl, rfl⟩
              go_wp2_with fail
              go_roundw
              case rel => exact ⟨k + 1, n + t.carets, _, by omega, by go_num, by go_num, HN, by omega, trivial⟩
              case measure => simp [intOf]; omega
          · obtain rfl : k = L.length := by omega
            have h1 := he.out
            rw [List.take_of_length_le (Nat.le_refl _)] at h1
            have h2 := HK.out us h1.1 trivial
            rw [← h1.2] at h2
            have HF := Lib.hid h2
            clear h1 h2 he
            go_wp2_with fail
            go_ret
            exact ⟨ret_bool (by rw [HF.out]; exact decide_eq_decide.2 (by omega)), Below.refl _ _⟩
end Go.Proofs.Ytplmbdljhgicfaa
