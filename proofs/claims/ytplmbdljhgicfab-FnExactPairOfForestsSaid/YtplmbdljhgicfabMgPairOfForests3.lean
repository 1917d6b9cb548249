/- FnExactPairOfForests: for every input the law returns true and leaves its arguments as they were. No conditions. -/
import Derived.Test.YtplmbdljhgicfabMgPairOfForests2
import Derived.ProofKit
import Derived.OpenShut
import Derived.ShutString
import Derived.ChangeOld
import Derived.Below
import Derived.SliceStrings
/-! Ff10 -/
namespace Go.Proofs.Ytplmbdljhgicfab
open Go.RowKit

theorem rcomb_eq (n : Nat) : rcomb n = combR n := by induction n with | zero => rfl | succ n ih => rw [rcomb, combR, ih]
theorem combR_text (n : Nat) : (combR n).text = Lib.repeatL [40, 46] n ++ ([46] ++ Lib.repeatL [41] n) := by
  induction n with
  | zero => rfl
  | succ n ih =>
    have h1 : Lib.repeatL [41] (n + 1) = Lib.repeatL [41] n ++ [41] := by rw [Lib.repeatL_add, Lib.repeatL_one]
    rw [combR, Tr.text, ih, h1]
    show 40 :: ([46] ++ _) = [40, 46] ++ Lib.repeatL [40, 46] n ++ _
    simp

set_option maxRecDepth 100000 in
set_option maxHeartbeats 400000 in
theorem longComb_any (n : Nat) (w : World) (h : n ≤ 1000) :
    Calls Try.prog 115 #[.int .i64 n] w (Gives (.string (combR n).str) w) := by
  have h1 := fun w => Try.strings_Repeat ⟨#[40, 46]⟩ n w (by omega) (by show 2 * n ≤ _; omega)
  have h2 := fun w => Try.strings_Repeat ⟨#[41]⟩ n w (by omega) (by show 1 * n ≤ _; omega)
  have l1 := Lib.repeatL_length [40, 46] n
  have l2 := Lib.repeatL_length [41] n
  have ht := combR_text n
  obtain ⟨A, hA⟩ : ∃ A : ByteArray, A = ⟨(Lib.repeatL [40, 46] n).toArray⟩ := ⟨_, rfl⟩
  obtain ⟨B, hB⟩ : ∃ B : ByteArray, B = ⟨(Lib.repeatL [41] n).toArray⟩ := ⟨_, rfl⟩
  have j1 : ∀ w, Calls Try.prog 146 #[.string ⟨#[40, 46]⟩, .int .i64 n] w (Gives (.string A) w) := fun w => by rw [hA]; exact h1 w
  have j2 : ∀ w, Calls Try.prog 146 #[.string ⟨#[41]⟩, .int .i64 n] w (Gives (.string B) w) := fun w => by rw [hB]; exact h2 w
  have sA : A.size ≤ 2000 := by rw [hA]; show (Lib.repeatL [40, 46] n).toArray.size ≤ _; rw [List.size_toArray, l1]; simp; omega
  have sB : B.size ≤ 2000 := by rw [hB]; show (Lib.repeatL [41] n).toArray.size ≤ _; rw [List.size_toArray, l2]; simp; omega
  have hR : A ++ ⟨#[46]⟩ ++ B = (combR n).str := by
    apply ba_ext
    rw [Tr.str_list, ht, hA, hB]
    simp
  have HR := Lib.hid hR
  have a1 : ¬ (9223372036854775807 < A.size + 1) := by omega
  have a2 : ¬ (9223372036854775807 < A.size + 1 + B.size) := by omega
  clear h1 h2 l1 l2 ht hA hB hR
  go_enter Try.func115, Try.ntmps115
  go_wp2_with fail
  refine (j1 _).mono ?_; rintro e w1 ⟨rfl, hb1⟩
  go_wp2_with fail
  refine (j2 _).mono ?_; rintro e w2 ⟨rfl, hb2⟩
  go_wp2_with fail
  go_ret
  exact ⟨ret_str HR.out, nx hb1 hb2⟩

set_option maxRecDepth 100000 in
set_option maxHeartbeats 400000 in
theorem pairOfForest_any (v : Value) (b : Nat) (us : List Tr) (w : World) (h : CellsS b w v (strs us)) (hs : sumT us ≤ 40) (hl : us.length ≤ 40) (_hlast : lastB us = true) :
    Calls Try.prog 59 #[v] w (Gives (.agg #[.string (pairF us).1.str, .string (pairF us).2.str]) w) := by
  have HH := Lib.hid h
  obtain ⟨oa, cap, rfl, hcl, hcm, _⟩ := h.form0
  unfold maxLen at hcm
  rw [strs_length] at *
  have hc := combT_carets us
  have hU := fun w h => (hung_any (.slice oa us.length cap) b us w h (by omega) (by omega))
  have hC := fun w => countCarets_any (combT us) w (by omega)
  have hR := fun w => longComb_any (combT us).carets w (by omega)
  have hT1 : (pairF us).1 = combT us := rfl
  have hT2 : (pairF us).2 = combR (combT us).carets := rfl
  rw [hT1, hT2]
  generalize (combR (combT us).carets).str = B at *
  generalize (combT us).str = A at *
  generalize (combT us).carets = n at *
  clear h hT1 hT2 _hlast hc
  go_enter Try.func59, Try.ntmps59
  go_wp2_with fail
  have hb0 : Below w.heap.size w (w.alloc (.cells #[.string ⟨#[]⟩, .string ⟨#[]⟩] 29 (0, 0))) := nxAlloc (Below.refl _ _) _
  have hx := heap_alloc_at w (.cells #[.string ⟨#[]⟩, .string ⟨#[]⟩] 29 (0, 0))
  generalize w.alloc (.cells #[.string ⟨#[]⟩, .string ⟨#[]⟩] 29 (0, 0)) = w0 at *
  obtain ⟨xa, xb, xc⟩ := two_facts hx
  obtain ⟨xf, xg⟩ := two_frozen hx
  refine (hU _ (HH.out.keep hb0)).mono ?_; rintro e w1 ⟨rfl, hb1⟩
  have hbw1 := nx hb0 hb1
  replace hx := heap_keep hb1 hx
  clear xa xb xc xf xg
  obtain ⟨xa, xb, xc⟩ := two_facts hx
  obtain ⟨xf, xg⟩ := two_frozen hx
  clear hb1 hb0
  go_wp2_with fail
  refine (hC _).mono ?_; rintro e w2 ⟨rfl, hb2⟩
  have hbw2 := nx hbw1 hb2
  replace hx := heap_keep hb2 hx
  clear xa xb xc xf xg
  obtain ⟨xa, xb, xc⟩ := two_facts hx
  obtain ⟨xf, xg⟩ := two_frozen hx
  clear hb2 hbw1
  go_wp2_with fail
  refine (hR _).mono ?_; rintro e w3 ⟨rfl, hb3⟩
  have hbw3 := nx hbw2 hb3
  replace hx := heap_keep hb3 hx
  clear xa xb xc xf xg
  obtain ⟨xa, xb, xc⟩ := two_facts hx
  obtain ⟨xf, xg⟩ := two_frozen hx
  clear hb3 hbw2
  go_wp2_with fail
  obtain ⟨q1, q2⟩ := two_cells (set_two (.string A) (.string B) hx)
  refine bodyPost_ret (v := .agg #[.string A, .string B]) (by simp [q1, q2, results, Try.results59, go_sem]) rfl ⟨rfl, ?_⟩
  exact (hbw3.setCell (by show w.heap.size ≤ w.heap.size; omega) _).setCell (by show w.heap.size ≤ w.heap.size; omega) _

set_option maxRecDepth 100000 in
set_option maxHeartbeats 400000 in
theorem foPair_any (v : Value) (b : Nat) (us : List Tr) (w : World) (h : CellsS b w v (strs us)) (hs : sumT us ≤ 40) (hl : us.length ≤ 40) (_hlast : lastB us = true) :
    Calls Try.prog 54 #[v] w (Gives (.agg #[.string (pairF us).1.str, .string (pairF us).2.str]) w) := by
  have HH := Lib.hid h
  obtain ⟨oa, cap, rfl, hcl, hcm, _⟩ := h.form0
  unfold maxLen at hcm
  rw [strs_length] at *
  have hc := combT_carets us
  have hU := fun w h => (wdComb_any (.slice oa us.length cap) b us w h (by omega))
  have hC := fun w => carets_str (combT us) w (by omega)
  have hR := fun w => trRight_any (combT us).carets w (by omega)
  simp only [rcomb_eq] at hR
  have hP := fun w => prReduce_nil (pairF us) w (by show (combT us).carets ≤ 200; omega) (by show (combR (combT us).carets).carets ≤ 200; rw [combR_carets]; omega)
  rw [pairF_red us _hlast] at hP
  have hT1 : (pairF us).1 = combT us := rfl
  have hT2 : (pairF us).2 = combR (combT us).carets := rfl
  rw [hT1, hT2] at hP ⊢
  generalize (combR (combT us).carets).str = B at *
  generalize (combT us).str = A at *
  generalize (combT us).carets = n at *
  clear h hT1 hT2 _hlast hc
  go_enter Try.func54, Try.ntmps54
  go_wp2_with fail
  have hb0 : Below w.heap.size w (w.alloc (.cells #[.string ⟨#[]⟩, .string ⟨#[]⟩] 29 (0, 0))) := nxAlloc (Below.refl _ _) _
  have hx := heap_alloc_at w (.cells #[.string ⟨#[]⟩, .string ⟨#[]⟩] 29 (0, 0))
  generalize w.alloc (.cells #[.string ⟨#[]⟩, .string ⟨#[]⟩] 29 (0, 0)) = w0 at *
  obtain ⟨xa, xb, xc⟩ := two_facts hx
  obtain ⟨xf, xg⟩ := two_frozen hx
  refine (hU _ (HH.out.keep hb0)).mono ?_; rintro e w1 ⟨rfl, hb1⟩
  have hbw1 := nx hb0 hb1
  replace hx := heap_keep hb1 hx
  clear xa xb xc xf xg
  obtain ⟨xa, xb, xc⟩ := two_facts hx
  obtain ⟨xf, xg⟩ := two_frozen hx
  clear hb1 hb0
  go_wp2_with fail
  refine (hC _).mono ?_; rintro e w2 ⟨rfl, rfl⟩
  go_wp2_with fail
  refine (hR _).mono ?_; rintro e w3 ⟨rfl, rfl⟩
  go_wp2_with fail
  refine (hP _).mono ?_; rintro e w4 ⟨rfl, hb4⟩
  have hbw4 := nx hbw1 hb4
  replace hx := heap_keep hb4 hx
  clear xa xb xc xf xg
  obtain ⟨xa, xb, xc⟩ := two_facts hx
  obtain ⟨xf, xg⟩ := two_frozen hx
  clear hb4 hbw1
  go_wp2_with fail
  obtain ⟨q1, q2⟩ := two_cells (set_two (.string A) (.string B) hx)
  refine bodyPost_ret (v := .agg #[.string A, .string B]) (by simp [q1, q2, results, Try.results54, go_sem]) rfl ⟨rfl, ?_⟩
  exact (hbw4.setCell (by show w.heap.size ≤ w.heap.size; omega) _).setCell (by show w.heap.size ≤ w.heap.size; omega) _

end Go.Proofs.Ytplmbdljhgicfab

/-! Inv -/
namespace Go.Proofs.Ytplmbdljhgicfab
open Go.RowKit

theorem prInverse_any (a b : ByteArray) (w : World) : Calls Try.prog 55 #[.agg #[.string a, .string b]] w (Gives (.agg #[.string b, .string a]) w) := by
  go_enter Try.func55, Try.ntmps55
  go_wp2
  refine bodyPost_ret (v := .agg #[.string b, .string a]) (by simp [results, Try.results55, go_sem]) rfl ⟨rfl, ?_⟩
  exact nxAlloc (nxAlloc (Below.refl _ _) _) _

theorem inverse_any (a b : ByteArray) (w : World) : Calls Try.prog 60 #[.agg #[.string a, .string b]] w (Gives (.agg #[.string b, .string a]) w) := by
  go_enter Try.func60, Try.ntmps60
  go_wp2
  refine bodyPost_ret (v := .agg #[.string b, .string a]) (by simp [results, Try.results60, go_sem]) rfl ⟨rfl, ?_⟩
  exact nxAlloc (nxAlloc (Below.refl _ _) _) _
end Go.Proofs.Ytplmbdljhgicfab

/-! Ff12 -/
namespace Go.Proofs.Ytplmbdljhgicfab
open Go.RowKit

def prodFo (o p : Option (List Tr)) : Option Pr := o.bind fun us => p.bind fun vs => limP (mulP (pairF us) (invP (pairF vs)))

set_option maxRecDepth 100000 in
set_option maxHeartbeats 400000 in
theorem implPairOfForests_any (v : Value) (b : Nat) (L : List ByteArray) (v2 : Value) (b2 : Nat) (M : List ByteArray) (w : World) (h : CellsS b w v L) (h2 : CellsS b2 w v2 M) (hz : ∀ s ∈ L, s.size ≤ 1048576) (hz2 : ∀ s ∈ M, s.size ≤ 1048576) (hn : L.length ≤ 1048576) (hn2 : M.length ≤ 1048576) :
    Calls Try.prog 18 #[v, v2] w (Gives (ansPr (prodFo (forOf L) (forOf M))) w) := by
  have hG := fun w h => implIsForest_b v b L w h hz hn
  have hH := fun w h => implIsForest_b v2 b2 M w h hz2 hn2
  have HA := Lib.hid h
  have HB := Lib.hid h2
  obtain ⟨oa, cap, rfl, hcl, hcm, _⟩ := h.form0
  obtain ⟨ob, bcap, rfl, hdl, hdm, _⟩ := h2.form0
  unfold maxLen at hcm hdm
  clear h h2 hz hz2
  rcases hf : forOf L with _ | us
  · rw [hf] at hG
    have hG' : ∀ w, CellsS b w (.slice oa L.length cap) L → Calls Try.prog 56 #[.slice oa L.length cap] w (Gives (.bool false) w) := hG
    show Calls _ _ _ _ (Gives (.tuple #[.agg #[.string ⟨#[]⟩, .string ⟨#[]⟩], .bool false]) w)
    clear hG hH hf
    go_enter Try.func18, Try.ntmps18
    go_wp2_with fail
    have hb0 : Below w.heap.size w (w.alloc (.cells #[.string ⟨#[]⟩, .string ⟨#[]⟩] 29 (0, 0))) := nxAlloc (Below.refl _ _) _
    have hx := heap_alloc_at w (.cells #[.string ⟨#[]⟩, .string ⟨#[]⟩] 29 (0, 0))
    generalize w.alloc (.cells #[.string ⟨#[]⟩, .string ⟨#[]⟩] 29 (0, 0)) = w0 at *
    obtain ⟨xa, xb, xc⟩ := two_facts hx
    obtain ⟨xf, xg⟩ := two_frozen hx
    refine (hG' _ (HA.out.keep hb0)).mono ?_; rintro e w1 ⟨rfl, hb1⟩
    have hbw1 := nx hb0 hb1
    replace hx := heap_keep hb1 hx
    clear xa xb xc xf xg
    obtain ⟨xa, xb, xc⟩ := two_facts hx
    obtain ⟨xf, xg⟩ := two_frozen hx
    clear hb1 hb0
    go_wp2_with fail
    obtain ⟨q1, q2⟩ := two_cells (set_two (.string ⟨#[]⟩) (.string ⟨#[]⟩) hx)
    refine bodyPost_ret (v := .tuple #[.agg #[.string ⟨#[]⟩, .string ⟨#[]⟩], .bool false]) (by simp [q1, q2, results, Try.results18, go_sem]) rfl ⟨rfl, ?_⟩
    exact (hbw1.setCell (by show w.heap.size ≤ w.heap.size; omega) _).setCell (by show w.heap.size ≤ w.heap.size; omega) _
  · rw [hf] at hG
    have hG' : ∀ w, CellsS b w (.slice oa L.length cap) L → Calls Try.prog 56 #[.slice oa L.length cap] w (Gives (.bool true) w) := hG
    rcases hk : forOf M with _ | vs
    · rw [hk] at hH
      have hH' : ∀ w, CellsS b2 w (.slice ob M.length bcap) M → Calls Try.prog 56 #[.slice ob M.length bcap] w (Gives (.bool false) w) := hH
      show Calls _ _ _ _ (Gives (.tuple #[.agg #[.string ⟨#[]⟩, .string ⟨#[]⟩], .bool false]) w)
      clear hG hH hf hk
      go_enter Try.func18, Try.ntmps18
      go_wp2_with fail
      have hb0 : Below w.heap.size w (w.alloc (.cells #[.string ⟨#[]⟩, .string ⟨#[]⟩] 29 (0, 0))) := nxAlloc (Below.refl _ _) _
      have hx := heap_alloc_at w (.cells #[.string ⟨#[]⟩, .string ⟨#[]⟩] 29 (0, 0))
      generalize w.alloc (.cells #[.string ⟨#[]⟩, .string ⟨#[]⟩] 29 (0, 0)) = w0 at *
      obtain ⟨xa, xb, xc⟩ := two_facts hx
      obtain ⟨xf, xg⟩ := two_frozen hx
      refine (hG' _ (HA.out.keep hb0)).mono ?_; rintro e w1 ⟨rfl, hb1⟩
      have hbw1 := nx hb0 hb1
      replace hx := heap_keep hb1 hx
      clear xa xb xc xf xg
      obtain ⟨xa, xb, xc⟩ := two_facts hx
      obtain ⟨xf, xg⟩ := two_frozen hx
      clear hb1 hb0
      go_wp2_with fail
      refine (hH' _ (HB.out.keep hbw1)).mono ?_; rintro e w2 ⟨rfl, hb2⟩
      have hbw2 := nx hbw1 hb2
      replace hx := heap_keep hb2 hx
      clear xa xb xc xf xg
      obtain ⟨xa, xb, xc⟩ := two_facts hx
      obtain ⟨xf, xg⟩ := two_frozen hx
      clear hb2 hbw1
      go_wp2_with fail
      obtain ⟨q1, q2⟩ := two_cells (set_two (.string ⟨#[]⟩) (.string ⟨#[]⟩) hx)
      refine bodyPost_ret (v := .tuple #[.agg #[.string ⟨#[]⟩, .string ⟨#[]⟩], .bool false]) (by simp [q1, q2, results, Try.results18, go_sem]) rfl ⟨rfl, ?_⟩
      exact (hbw2.setCell (by show w.heap.size ≤ w.heap.size; omega) _).setCell (by show w.heap.size ≤ w.heap.size; omega) _
    · rw [hk] at hH
      have hH' : ∀ w, CellsS b2 w (.slice ob M.length bcap) M → Calls Try.prog 56 #[.slice ob M.length bcap] w (Gives (.bool true) w) := hH
      obtain ⟨hL, hl8, hs8, hlast⟩ := forOf_strs hf
      obtain ⟨hM, hm8, ht8, hlastM⟩ := forOf_strs hk
      have hP1 := fun w h => pairOfForest_any (.slice oa L.length cap) b us w h (by omega) (by omega) hlast
      have hP2 := fun w h => pairOfForest_any (.slice ob M.length bcap) b2 vs w h (by omega) (by omega) hlastM
      have HC : Hid (∀ w, CellsS b w (.slice oa L.length cap) L → CellsS b w (.slice oa L.length cap) (strs us)) := fun w h => by rw [← hL]; exact h
      have HD : Hid (∀ w, CellsS b2 w (.slice ob M.length bcap) M → CellsS b2 w (.slice ob M.length bcap) (strs vs)) := fun w h => by rw [← hM]; exact h
      have hI : ∀ w, Calls Try.prog 60 #[.agg #[.string (pairF vs).1.str, .string (pairF vs).2.str]] w (Gives (.agg #[.string (invP (pairF vs)).1.str, .string (invP (pairF vs)).2.str]) w) := fun w => inverse_any _ _ w
      have c1 := combT_carets us
      have c2 := combT_carets vs
      have hio : okP (invP (pairF vs)) := (pairF_ok vs).symm
      have c3 : (invP (pairF vs)).1.carets ≤ 16 := by show (combR (combT vs).carets).carets ≤ 16; rw [combR_carets]; omega
      have c4 : (pairF us).1.carets ≤ 16 := by show (combT us).carets ≤ 16; omega
      have c5 : (pairF us).2.carets ≤ 16 := by have := pairF_ok us; unfold okP at this; omega
      have c6 := mulP_carets (pairF_ok us) hio
      have hX := fun w => product_any (pairF us) (invP (pairF vs)) w (pairF_ok us) hio (by omega) (by omega)
      have hW := fun w => pairLimit_any (mulP (pairF us) (invP (pairF vs))) w
      show Calls _ _ _ _ (Gives (ansPr (limP (mulP (pairF us) (invP (pairF vs))))) w)
      generalize limP (mulP (pairF us) (invP (pairF vs))) = r at *
      unfold ansPr at hW ⊢
      generalize pS1 r = A at *
      generalize pS2 r = B at *
      generalize r.isSome = ok at *
      generalize mulP (pairF us) (invP (pairF vs)) = m at *
      generalize invP (pairF vs) = q at *
      generalize pairF us = p at *
      generalize pairF vs = t at *
      clear hG hH hf hk hL hM hlast hlastM hio c1 c2 c3 c4 c5 c6
      go_enter Try.func18, Try.ntmps18
      go_wp2_with fail
      have hb0 : Below w.heap.size w (w.alloc (.cells #[.string ⟨#[]⟩, .string ⟨#[]⟩] 29 (0, 0))) := nxAlloc (Below.refl _ _) _
      have hx := heap_alloc_at w (.cells #[.string ⟨#[]⟩, .string ⟨#[]⟩] 29 (0, 0))
      generalize w.alloc (.cells #[.string ⟨#[]⟩, .string ⟨#[]⟩] 29 (0, 0)) = w0 at *
      obtain ⟨xa, xb, xc⟩ := two_facts hx
      obtain ⟨xf, xg⟩ := two_frozen hx
      refine (hG' _ (HA.out.keep hb0)).mono ?_; rintro e w1 ⟨rfl, hb1⟩
      have hbw1 := nx hb0 hb1
      replace hx := heap_keep hb1 hx
      clear xa xb xc xf xg
      obtain ⟨xa, xb, xc⟩ := two_facts hx
      obtain ⟨xf, xg⟩ := two_frozen hx
      clear hb1 hb0
      go_wp2_with fail
      refine (hH' _ (HB.out.keep hbw1)).mono ?_; rintro e w2 ⟨rfl, hb2⟩
      have hbw2 := nx hbw1 hb2
      replace hx := heap_keep hb2 hx
      clear xa xb xc xf xg
      obtain ⟨xa, xb, xc⟩ := two_facts hx
      obtain ⟨xf, xg⟩ := two_frozen hx
      clear hb2 hbw1
      go_wp2_with fail
      refine (hP1 _ (HC.out _ (HA.out.keep hbw2))).mono ?_; rintro e w3 ⟨rfl, hb3⟩
      have hbw3 := nx hbw2 hb3
      replace hx := heap_keep hb3 hx
      clear xa xb xc xf xg
      obtain ⟨xa, xb, xc⟩ := two_facts hx
      obtain ⟨xf, xg⟩ := two_frozen hx
      clear hb3 hbw2
      go_wp2_with fail
      refine (hP2 _ (HD.out _ (HB.out.keep hbw3))).mono ?_; rintro e w4 ⟨rfl, hb4⟩
      have hbw4 := nx hbw3 hb4
      replace hx := heap_keep hb4 hx
      clear xa xb xc xf xg
      obtain ⟨xa, xb, xc⟩ := two_facts hx
      obtain ⟨xf, xg⟩ := two_frozen hx
      clear hb4 hbw3
      go_wp2_with fail
      refine (hI _).mono ?_; rintro e w5 ⟨rfl, hb5⟩
      have hbw5 := nx hbw4 hb5
      replace hx := heap_keep hb5 hx
      clear xa xb xc xf xg
      obtain ⟨xa, xb, xc⟩ := two_facts hx
      obtain ⟨xf, xg⟩ := two_frozen hx
      clear hb5 hbw4
      go_wp2_with fail
      refine (hX _).mono ?_; rintro e w6 ⟨rfl, hb6⟩
      have hbw6 := nx hbw5 hb6
      replace hx := heap_keep hb6 hx
      clear xa xb xc xf xg
      obtain ⟨xa, xb, xc⟩ := two_facts hx
      obtain ⟨xf, xg⟩ := two_frozen hx
      clear hb6 hbw5
      go_wp2_with fail
      refine (hW _).mono ?_; rintro e w7 ⟨rfl, hb7⟩
      have hbw7 := nx hbw6 hb7
      replace hx := heap_keep hb7 hx
      clear xa xb xc xf xg
      obtain ⟨xa, xb, xc⟩ := two_facts hx
      obtain ⟨xf, xg⟩ := two_frozen hx
      clear hb7 hbw6
      go_wp2_with fail
      obtain ⟨q1, q2⟩ := two_cells (set_two (.string A) (.string B) hx)
      refine bodyPost_ret (v := .tuple #[.agg #[.string A, .string B], .bool ok]) (by simp [q1, q2, results, Try.results18, go_sem]) rfl ⟨rfl, ?_⟩
      exact (hbw7.setCell (by show w.heap.size ≤ w.heap.size; omega) _).setCell (by show w.heap.size ≤ w.heap.size; omega) _

set_option maxRecDepth 100000 in
set_option maxHeartbeats 400000 in
theorem specPairOfForests_any (v : Value) (b : Nat) (L : List ByteArray) (v2 : Value) (b2 : Nat) (M : List ByteArray) (w : World) (h : CellsS b w v L) (h2 : CellsS b2 w v2 M) (hz : ∀ s ∈ L, s.size ≤ 1048576) (hz2 : ∀ s ∈ M, s.size ≤ 1048576) (hn : L.length ≤ 1048576) (hn2 : M.length ≤ 1048576) :
    Calls Try.prog 17 #[v, v2] w (Gives (ansPr (prodFo (forOf L) (forOf M))) w) := by
  have hG := fun w h => foGood_any v b L w h hz hn
  have hH := fun w h => foGood_any v2 b2 M w h hz2 hn2
  have HA := Lib.hid h
  have HB := Lib.hid h2
  obtain ⟨oa, cap, rfl, hcl, hcm, _⟩ := h.form0
  obtain ⟨ob, bcap, rfl, hdl, hdm, _⟩ := h2.form0
  unfold maxLen at hcm hdm
  clear h h2 hz hz2
  rcases hf : forOf L with _ | us
  · rw [hf] at hG
    have hG' : ∀ w, CellsS b w (.slice oa L.length cap) L → Calls Try.prog 39 #[.slice oa L.length cap] w (Gives (.bool false) w) := hG
    show Calls _ _ _ _ (Gives (.tuple #[.agg #[.string ⟨#[]⟩, .string ⟨#[]⟩], .bool false]) w)
    clear hG hH hf
    go_enter Try.func17, Try.ntmps17
    go_wp2_with fail
    have hb0 : Below w.heap.size w (w.alloc (.cells #[.string ⟨#[]⟩, .string ⟨#[]⟩] 29 (0, 0))) := nxAlloc (Below.refl _ _) _
    have hx := heap_alloc_at w (.cells #[.string ⟨#[]⟩, .string ⟨#[]⟩] 29 (0, 0))
    generalize w.alloc (.cells #[.string ⟨#[]⟩, .string ⟨#[]⟩] 29 (0, 0)) = w0 at *
    obtain ⟨xa, xb, xc⟩ := two_facts hx
    obtain ⟨xf, xg⟩ := two_frozen hx
    refine (hG' _ (HA.out.keep hb0)).mono ?_; rintro e w1 ⟨rfl, hb1⟩
    have hbw1 := nx hb0 hb1
    replace hx := heap_keep hb1 hx
    clear xa xb xc xf xg
    obtain ⟨xa, xb, xc⟩ := two_facts hx
    obtain ⟨xf, xg⟩ := two_frozen hx
    clear hb1 hb0
    go_wp2_with fail
    obtain ⟨q1, q2⟩ := two_cells (set_two (.string ⟨#[]⟩) (.string ⟨#[]⟩) hx)
    refine bodyPost_ret (v := .tuple #[.agg #[.string ⟨#[]⟩, .string ⟨#[]⟩], .bool false]) (by simp [q1, q2, results, Try.results17, go_sem]) rfl ⟨rfl, ?_⟩
    exact (hbw1.setCell (by show w.heap.size ≤ w.heap.size; omega) _).setCell (by show w.heap.size ≤ w.heap.size; omega) _
  · rw [hf] at hG
    have hG' : ∀ w, CellsS b w (.slice oa L.length cap) L → Calls Try.prog 39 #[.slice oa L.length cap] w (Gives (.bool true) w) := hG
    rcases hk : forOf M with _ | vs
    · rw [hk] at hH
      have hH' : ∀ w, CellsS b2 w (.slice ob M.length bcap) M → Calls Try.prog 39 #[.slice ob M.length bcap] w (Gives (.bool false) w) := hH
      show Calls _ _ _ _ (Gives (.tuple #[.agg #[.string ⟨#[]⟩, .string ⟨#[]⟩], .bool false]) w)
      clear hG hH hf hk
      go_enter Try.func17, Try.ntmps17
      go_wp2_with fail
      have hb0 : Below w.heap.size w (w.alloc (.cells #[.string ⟨#[]⟩, .string ⟨#[]⟩] 29 (0, 0))) := nxAlloc (Below.refl _ _) _
      have hx := heap_alloc_at w (.cells #[.string ⟨#[]⟩, .string ⟨#[]⟩] 29 (0, 0))
      generalize w.alloc (.cells #[.string ⟨#[]⟩, .string ⟨#[]⟩] 29 (0, 0)) = w0 at *
      obtain ⟨xa, xb, xc⟩ := two_facts hx
      obtain ⟨xf, xg⟩ := two_frozen hx
      refine (hG' _ (HA.out.keep hb0)).mono ?_; rintro e w1 ⟨rfl, hb1⟩
      have hbw1 := nx hb0 hb1
      replace hx := heap_keep hb1 hx
      clear xa xb xc xf xg
      obtain ⟨xa, xb, xc⟩ := two_facts hx
      obtain ⟨xf, xg⟩ := two_frozen hx
      clear hb1 hb0
      go_wp2_with fail
      refine (hH' _ (HB.out.keep hbw1)).mono ?_; rintro e w2 ⟨rfl, hb2⟩
      have hbw2 := nx hbw1 hb2
      replace hx := heap_keep hb2 hx
      clear xa xb xc xf xg
      obtain ⟨xa, xb, xc⟩ := two_facts hx
      obtain ⟨xf, xg⟩ := two_frozen hx
      clear hb2 hbw1
      go_wp2_with fail
      obtain ⟨q1, q2⟩ := two_cells (set_two (.string ⟨#[]⟩) (.string ⟨#[]⟩) hx)
      refine bodyPost_ret (v := .tuple #[.agg #[.string ⟨#[]⟩, .string ⟨#[]⟩], .bool false]) (by simp [q1, q2, results, Try.results17, go_sem]) rfl ⟨rfl, ?_⟩
      exact (hbw2.setCell (by show w.heap.size ≤ w.heap.size; omega) _).setCell (by show w.heap.size ≤ w.heap.size; omega) _
    · rw [hk] at hH
      have hH' : ∀ w, CellsS b2 w (.slice ob M.length bcap) M → Calls Try.prog 39 #[.slice ob M.length bcap] w (Gives (.bool true) w) := hH
      obtain ⟨hL, hl8, hs8, hlast⟩ := forOf_strs hf
      obtain ⟨hM, hm8, ht8, hlastM⟩ := forOf_strs hk
      have hP1 := fun w h => foPair_any (.slice oa L.length cap) b us w h (by omega) (by omega) hlast
      have hP2 := fun w h => foPair_any (.slice ob M.length bcap) b2 vs w h (by omega) (by omega) hlastM
      have HC : Hid (∀ w, CellsS b w (.slice oa L.length cap) L → CellsS b w (.slice oa L.length cap) (strs us)) := fun w h => by rw [← hL]; exact h
      have HD : Hid (∀ w, CellsS b2 w (.slice ob M.length bcap) M → CellsS b2 w (.slice ob M.length bcap) (strs vs)) := fun w h => by rw [← hM]; exact h
      have hI : ∀ w, Calls Try.prog 55 #[.agg #[.string (pairF vs).1.str, .string (pairF vs).2.str]] w (Gives (.agg #[.string (invP (pairF vs)).1.str, .string (invP (pairF vs)).2.str]) w) := fun w => prInverse_any _ _ w
      have c1 := combT_carets us
      have c2 := combT_carets vs
      have hio : okP (invP (pairF vs)) := (pairF_ok vs).symm
      have c3 : (invP (pairF vs)).1.carets ≤ 16 := by show (combR (combT vs).carets).carets ≤ 16; rw [combR_carets]; omega
      have c4 : (pairF us).1.carets ≤ 16 := by show (combT us).carets ≤ 16; omega
      have c5 : (pairF us).2.carets ≤ 16 := by have := pairF_ok us; unfold okP at this; omega
      have c6 := mulP_carets (pairF_ok us) hio
      have hX := fun w => prTimes_any (pairF us) (invP (pairF vs)) w (pairF_ok us) hio (by omega) (by omega)
      have hW := fun w => prIf_any (mulP (pairF us) (invP (pairF vs))) w (mulP_ok (pairF_ok us) hio) (by omega)
      show Calls _ _ _ _ (Gives (ansPr (limP (mulP (pairF us) (invP (pairF vs))))) w)
      generalize limP (mulP (pairF us) (invP (pairF vs))) = r at *
      unfold ansPr at hW ⊢
      generalize pS1 r = A at *
      generalize pS2 r = B at *
      generalize r.isSome = ok at *
      generalize mulP (pairF us) (invP (pairF vs)) = m at *
      generalize invP (pairF vs) = q at *
      generalize pairF us = p at *
      generalize pairF vs = t at *
      clear hG hH hf hk hL hM hlast hlastM hio c1 c2 c3 c4 c5 c6
      go_enter Try.func17, Try.ntmps17
      go_wp2_with fail
      have hb0 : Below w.heap.size w (w.alloc (.cells #[.string ⟨#[]⟩, .string ⟨#[]⟩] 29 (0, 0))) := nxAlloc (Below.refl _ _) _
      have hx := heap_alloc_at w (.cells #[.string ⟨#[]⟩, .string ⟨#[]⟩] 29 (0, 0))
      generalize w.alloc (.cells #[.string ⟨#[]⟩, .string ⟨#[]⟩] 29 (0, 0)) = w0 at *
      obtain ⟨xa, xb, xc⟩ := two_facts hx
      obtain ⟨xf, xg⟩ := two_frozen hx
      refine (hG' _ (HA.out.keep hb0)).mono ?_; rintro e w1 ⟨rfl, hb1⟩
      have hbw1 := nx hb0 hb1
      replace hx := heap_keep hb1 hx
      clear xa xb xc xf xg
      obtain ⟨xa, xb, xc⟩ := two_facts hx
      obtain ⟨xf, xg⟩ := two_frozen hx
      clear hb1 hb0
      go_wp2_with fail
      refine (hH' _ (HB.out.keep hbw1)).mono ?_; rintro e w2 ⟨rfl, hb2⟩
      have hbw2 := nx hbw1 hb2
      replace hx := heap_keep hb2 hx
      clear xa xb xc xf xg
      obtain ⟨xa, xb, xc⟩ := two_facts hx
      obtain ⟨xf, xg⟩ := two_frozen hx
      clear hb2 hbw1
      go_wp2_with fail
      refine (hP1 _ (HC.out _ (HA.out.keep hbw2))).mono ?_; rintro e w3 ⟨rfl, hb3⟩
      have hbw3 := nx hbw2 hb3
      replace hx := heap_keep hb3 hx
      clear xa xb xc xf xg
      obtain ⟨xa, xb, xc⟩ := two_facts hx
      obtain ⟨xf, xg⟩ := two_frozen hx
      clear hb3 hbw2
      go_wp2_with fail
      refine (hP2 _ (HD.out _ (HB.out.keep hbw3))).mono ?_; rintro e w4 ⟨rfl, hb4⟩
      have hbw4 := nx hbw3 hb4
      replace hx := heap_keep hb4 hx
      clear xa xb xc xf xg
      obtain ⟨xa, xb, xc⟩ := two_facts hx
      obtain ⟨xf, xg⟩ := two_frozen hx
      clear hb4 hbw3
      go_wp2_with fail
      refine (hI _).mono ?_; rintro e w5 ⟨rfl, hb5⟩
      have hbw5 := nx hbw4 hb5
      replace hx := heap_keep hb5 hx
      clear xa xb xc xf xg
      obtain ⟨xa, xb, xc⟩ := two_facts hx
      obtain ⟨xf, xg⟩ := two_frozen hx
      clear hb5 hbw4
      go_wp2_with fail
      refine (hX _).mono ?_; rintro e w6 ⟨rfl, hb6⟩
      have hbw6 := nx hbw5 hb6
      replace hx := heap_keep hb6 hx
      clear xa xb xc xf xg
      obtain ⟨xa, xb, xc⟩ := two_facts hx
      obtain ⟨xf, xg⟩ := two_frozen hx
      clear hb6 hbw5
      go_wp2_with fail
      refine (hW _).mono ?_; rintro e w7 ⟨rfl, hb7⟩
      have hbw7 := nx hbw6 hb7
      replace hx := heap_keep hb7 hx
      clear xa xb xc xf xg
      obtain ⟨xa, xb, xc⟩ := two_facts hx
      obtain ⟨xf, xg⟩ := two_frozen hx
      clear hb7 hbw6
      go_wp2_with fail
      obtain ⟨q1, q2⟩ := two_cells (set_two (.string A) (.string B) hx)
      refine bodyPost_ret (v := .tuple #[.agg #[.string A, .string B], .bool ok]) (by simp [q1, q2, results, Try.results17, go_sem]) rfl ⟨rfl, ?_⟩
      exact (hbw7.setCell (by show w.heap.size ≤ w.heap.size; omega) _).setCell (by show w.heap.size ≤ w.heap.size; omega) _

end Go.Proofs.Ytplmbdljhgicfab

/-! WPairOfForests -/
namespace Go.Proofs.Ytplmbdljhgicfab
open Go.RowKit

set_option maxRecDepth 100000 in
set_option maxHeartbeats 4000000 in
theorem fnExactPairOfForests_law (W : World) (a0 : Option Addr) (len0 cap0 : Nat) (L : List ByteArray) (hl0 : L.length = len0) (hm0 : (len0 : Int) ≤ 9223372036854775807) (hz0 : ∀ s ∈ L, (s.size : Int) ≤ 9223372036854775807) (hin0 : InS W a0 L) (a1 : Option Addr) (len1 cap1 : Nat) (M : List ByteArray) (hl1 : M.length = len1) (hm1 : (len1 : Int) ≤ 9223372036854775807) (hz1 : ∀ s ∈ M, (s.size : Int) ≤ 9223372036854775807) (hin1 : InS W a1 M) :
    Calls Try.prog 4 #[.slice a0 len0 cap0, .slice a1 len1 cap1] W fun e w' => e = .returned (.bool true) ∧ Below W.heap.size W w' := by
  have hsz0 := fun left h0 h1 => szStringS_at a0 cap0 len0 L left W h0 h1 hl0 hm0 hz0 hin0
  have hsz1 := fun left h0 h1 => szStringS_at a1 cap1 len1 M left W h0 h1 hl1 hm1 hz1 hin1
  have HI0 := Lib.hid hin0
  have HL0 := Lib.hid hl0
  clear hin0 hz0 hl0
  have HI1 := Lib.hid hin1
  have HL1 := Lib.hid hl1
  clear hin1 hz1 hl1
  go_enter Try.func4, Try.ntmps4
  go_wp2_with fail
  refine (hsz0 1048576 (by omega) (by omega)).mono ?_; rintro e w1 ⟨r0, rfl, rfl, hM0, hR0⟩
  by_cases hneg0 : r0 < 0
  · clear hM0 hR0
    go_wp2_with fail
    go_ret
    exact ⟨rfl, Below.refl _ _⟩
  have hM0' := hM0.out
  obtain ⟨hn0, hs0⟩ := hR0.out (by omega)
  have HS0 := Lib.hid hs0
  have HN0 := Lib.hid hn0
  clear hM0 hR0 hs0 hn0 hsz0
  go_wp2_with fail
  refine (hsz1 r0 (by omega) hM0').mono ?_; rintro e w1 ⟨r1, rfl, rfl, hM1, hR1⟩
  by_cases hneg1 : r1 < 0
  · clear hM1 hR1
    go_wp2_with fail
    go_ret
    exact ⟨rfl, Below.refl _ _⟩
  have hM1' := hM1.out
  obtain ⟨hn1, hs1⟩ := hR1.out (by omega)
  have HS1 := Lib.hid hs1
  have HN1 := Lib.hid hn1
  clear hM1 hR1 hs1 hn1 hsz1
  have hS : ∀ (v0 : Value) (b0 : Nat) (v1 : Value) (b1 : Nat) (w : World), CellsS b0 w v0 L → CellsS b1 w v1 M → Calls Try.prog 17 #[v0, v1] w (Gives (ansPr (prodFo (forOf L) (forOf M))) w) := fun v0 b0 v1 b1 w h0 h1 => specPairOfForests_any v0 b0 L v1 b1 M w h0 h1 HS0.out HS1.out HN0.out HN1.out
  have hI : ∀ (v0 : Value) (b0 : Nat) (v1 : Value) (b1 : Nat) (w : World), CellsS b0 w v0 L → CellsS b1 w v1 M → Calls Try.prog 18 #[v0, v1] w (Gives (ansPr (prodFo (forOf L) (forOf M))) w) := fun v0 b0 v1 b1 w h0 h1 => implPairOfForests_any v0 b0 L v1 b1 M w h0 h1 HS0.out HS1.out HN0.out HN1.out
  generalize (prodFo (forOf L) (forOf M)) = o at hS hI
  unfold ansPr at hS hI
  generalize pS1 o = A at hS hI
  generalize pS2 o = B at hS hI
  generalize o.isSome = ok at hS hI
  clear o
  have hT0 := fun w h => toStringS_any a0 cap0 len0 L w HL0.out (by have := HN0.out; have := HL0.out; omega) h
  have hN0 : len0 ≤ 1048576 := by have := HN0.out; have := HL0.out; omega
  have hT1 := fun w h => toStringS_any a1 cap1 len1 M w HL1.out (by have := HN1.out; have := HL1.out; omega) h
  have hN1 : len1 ≤ 1048576 := by have := HN1.out; have := HL1.out; omega
  clear HS0 HN0
  clear HS1 HN1
  have hc0 := Below.refl W.heap.size W
  go_wp2_with fail
  refine (hT0 _ (HI0.out.keep hc0)).mono ?_; rintro e u1 ⟨pg0, po0, hb, rfl⟩
  have hc1 := nx hc0 hb
  clear hb hc0
  go_wp2_with fail
  refine (hT1 _ (HI1.out.keep hc1)).mono ?_; rintro e u2 ⟨pg1, po1, hb, rfl⟩
  have hc2 := nx hc1 hb
  replace po0 := po0.keep hb
  clear hb hc1
  go_wp2_with fail
  refine (hS _ _ _ _ _ po0.cells po1.cells).mono ?_; rintro e u3 ⟨rfl, hb⟩
  clear po0 po1
  have hc3 := nx hc2 hb
  clear hb hc2
  go_wp2_with fail
  have hb := nxAlloc (Below.refl u3.heap.size u3) (.cells #[.string A, .string B] 29 (0, 0))
  have hy := heap_alloc_at u3 (.cells #[.string A, .string B] 29 (0, 0))
  generalize u3.alloc (.cells #[.string A, .string B] 29 (0, 0)) = u4 at *
  have hc4 := nx hc3 hb
  clear hb hc3
  refine (hT0 _ (HI0.out.keep hc4)).mono ?_; rintro e u5 ⟨qg0, qo0, hb, rfl⟩
  have hc5 := nx hc4 hb
  replace hy := heap_keep hb hy
  clear hb hc4
  go_wp2_with fail
  refine (hT1 _ (HI1.out.keep hc5)).mono ?_; rintro e u6 ⟨qg1, qo1, hb, rfl⟩
  have hc6 := nx hc5 hb
  replace hy := heap_keep hb hy
  replace qo0 := qo0.keep hb
  clear hb hc5
  go_wp2_with fail
  refine (hI _ _ _ _ _ qo0.cells qo1.cells).mono ?_; rintro e u7 ⟨rfl, hb⟩
  have hc7 := nx hc6 hb
  replace hy := heap_keep hb hy
  replace qo0 := qo0.keep hb
  replace qo1 := qo1.keep hb
  clear hb hc6
  obtain ⟨ya, yb, yc⟩ := two_facts hy
  obtain ⟨yf, yg⟩ := two_frozen hy
  go_wp2_with fail
  have hb := nxAlloc (Below.refl u7.heap.size u7) (.cells #[.string A, .string B] 29 (0, 0))
  have hz9 := heap_alloc_at u7 (.cells #[.string A, .string B] 29 (0, 0))
  generalize u7.alloc (.cells #[.string A, .string B] 29 (0, 0)) = u8 at *
  have hc8 := nx hc7 hb
  replace hy := heap_keep hb hy
  replace qo0 := qo0.keep hb
  replace qo1 := qo1.keep hb
  clear ya yb yc yf yg
  clear hb hc7
  refine (eqPair_same A B _).mono ?_; rintro e u9 ⟨rfl, hb⟩
  clear hz9
  clear hy
  have hc9 := nx hc8 hb
  replace qo0 := qo0.keep hb
  replace qo1 := qo1.keep hb
  clear hb hc8
  go_wp2_with fail
  refine (hT0 _ (HI0.out.keep hc9)).mono ?_; rintro e u10 ⟨rg0, ro0, hb, rfl⟩
  have hc10 := nx hc9 hb
  replace qo0 := qo0.keep hb
  replace qo1 := qo1.keep hb
  clear hb hc9
  go_wp2_with fail
  refine (eqStringS_any _ _ _ _ L _ qo0.cells ro0.cells).mono ?_; rintro e u11 ⟨rfl, dd, hw⟩
  have hb : Below u10.heap.size u10 u11 := by rw [hw]; exact drewB (Below.refl _ _) dd
  clear hw ro0
  have hc11 := nx hc10 hb
  replace qo0 := qo0.keep hb
  replace qo1 := qo1.keep hb
  clear hb hc10
  go_wp2_with fail
  refine (hT1 _ (HI1.out.keep hc11)).mono ?_; rintro e u12 ⟨rg1, ro1, hb, rfl⟩
  have hc12 := nx hc11 hb
  replace qo0 := qo0.keep hb
  replace qo1 := qo1.keep hb
  clear hb hc11
  go_wp2_with fail
  refine (eqStringS_any _ _ _ _ M _ qo1.cells ro1.cells).mono ?_; rintro e u13 ⟨rfl, dd, hw⟩
  have hb : Below u12.heap.size u12 u13 := by rw [hw]; exact drewB (Below.refl _ _) dd
  clear hw ro1
  have hc13 := nx hc12 hb
  replace qo0 := qo0.keep hb
  replace qo1 := qo1.keep hb
  clear hb hc12
  go_wp2_with fail
  go_ret
  exact ⟨rfl, hc13⟩

theorem fnExactPairOfForests_walk (W : World) (a0 : Option Addr) (len0 cap0 : Nat) (z0 : List ByteArray) (h0 : IsStrs W a0 len0 cap0 z0) (a1 : Option Addr) (len1 cap1 : Nat) (z1 : List ByteArray) (h1 : IsStrs W a1 len1 cap1 z1) :
    Calls Try.prog 4 #[.slice a0 len0 cap0, .slice a1 len1 cap1] W fun e w' => e = .returned (.bool true) ∧ Below W.heap.size W w' := by
  obtain ⟨x0, y0, s0, t0⟩ := h0.inS
  obtain ⟨x1, y1, s1, t1⟩ := h1.inS
  exact fnExactPairOfForests_law W a0 len0 cap0 (z0.take len0) y0 s0 t0 x0 a1 len1 cap1 (z1.take len1) y1 s1 t1 x1

end Go.Proofs.Ytplmbdljhgicfab

/-! LFnExactPairOfForests -/
namespace Go.Proofs.Ytplmbdljhgicfab.fnExactPairOfForests
open Go.ChangeShapes Go.WideShapes Go.ChangeAt Go.RowKit
open Go.ChangeMaps (open_string shut_string)
set_option linter.unusedVariables false

theorem own : ownKnob Try.prog.godebug = none := by kernel_rfl
theorem laidOut : laidOutB Try.prog = true := by kernel_rfl

set_option maxRecDepth 100000 in
theorem lifted (os : Os) (started : os.Started) (H : Type) (enc : TypeId × Value → H) :
    ReturnsInHanded {} Try.checked os 4 .any (Rows.fnExactPairOfForestsSpec.pre6 enc Try.prog Try.f4 Rows.fnExactPairOfForestsRow.domain false) (Rows.fnExactPairOfForestsSpec.post enc Try.prog Try.f4 false true false false) := by
  refine returnsInHanded_of_change (C := Try.checked) own started (by kernel_rfl) Try.func4
    (ChangeSpec.witness6 (enc := enc) (C := Try.checked) false ⟨#[], #[.slice none 0 0, .slice none 0 0], []⟩ 8 (by kernel_rfl) (by kernel_rfl) (by kernel_rfl) (by kernel_rfl)) ?_
  intro W base args ds gs before hval0 hW hcnd _
  have hval : ∀ (j : Nat) t v, Try.f4.params[j]? = some t → args[j]? = some v → Value.okWide Try.prog W .any base t v := hval0
  have hW' := hW
  obtain ⟨p, q, hA0, hV, rfl, hfz, hnd⟩ := hW
  have hA : DataW.TrodAll enc Try.prog W 0 (fun _ => true) true Try.f4.params.toList args.toList ds p := hA0
  rw [Try.params4] at hA hval
  obtain ⟨v0, vs0, d0, ds0, p0, q0, hargs, rfl, rfl, h0, r0⟩ := trodAll_cons hA
  obtain ⟨v1, vs1, d1, ds1, p1, q1, rfl, rfl, rfl, h1, r1⟩ := trodAll_cons r0
  obtain ⟨rfl, rfl, rfl⟩ := trodAll_nil r1
  obtain rfl : args = #[v0, v1] := by cases args; simp_all
  obtain ⟨rfl, rfl⟩ := trodVars_none hV
  obtain ⟨a0, len0, cap0, rfl⟩ := okWide_slice Try.underlying22 (hval 0 22 v0 rfl rfl)
  have k0 := h0
  have lt0 : ∀ x ∈ p0, x.block < W.heap.size := by obtain ⟨m, hm⟩ := k0; exact DataW.trod_lt m _ _ _ hm
  obtain ⟨z0, w0⟩ : ∃ zs, IsStrs W a0 len0 cap0 zs := by
    obtain ⟨fuel, hf⟩ := h0
    rcases open_strings Try.underlying22 Try.underlying9 (by kernel_rfl) hf with ⟨hcs, _⟩ | ⟨x, l, c, zs, hcs, _, hl, hm, hz, _, hcell, hwz⟩
    · simp [Value.cells] at hcs
      obtain ⟨rfl, rfl, rfl⟩ := hcs
      exact ⟨[], .inl ⟨rfl, rfl, rfl, rfl⟩⟩
    · simp [Value.cells] at hcs
      obtain ⟨rfl, rfl, rfl⟩ := hcs
      exact ⟨zs, .inr ⟨_, rfl, hl, hm, by simpa using hz, hcell, hwz⟩⟩
  obtain ⟨a1, len1, cap1, rfl⟩ := okWide_slice Try.underlying22 (hval 1 22 v1 rfl rfl)
  have k1 := h1
  have lt1 : ∀ x ∈ p1, x.block < W.heap.size := by obtain ⟨m, hm⟩ := k1; exact DataW.trod_lt m _ _ _ hm
  obtain ⟨z1, w1⟩ : ∃ zs, IsStrs W a1 len1 cap1 zs := by
    obtain ⟨fuel, hf⟩ := h1
    rcases open_strings Try.underlying22 Try.underlying9 (by kernel_rfl) hf with ⟨hcs, _⟩ | ⟨x, l, c, zs, hcs, _, hl, hm, hz, _, hcell, hwz⟩
    · simp [Value.cells] at hcs
      obtain ⟨rfl, rfl, rfl⟩ := hcs
      exact ⟨[], .inl ⟨rfl, rfl, rfl, rfl⟩⟩
    · simp [Value.cells] at hcs
      obtain ⟨rfl, rfl, rfl⟩ := hcs
      exact ⟨zs, .inr ⟨_, rfl, hl, hm, by simpa using hz, hcell, hwz⟩⟩
  clear hA0 hval0
  simp only [List.append_nil] at hW'
  refine (fnExactPairOfForests_walk W a0 len0 cap0 z0 w0 a1 len1 cap1 z1 w1).mono fun e W' ⟨he, bel⟩ => ?_
  subst he
  exact ⟨_, rfl, _, _, _, [], _, [], hW', trodAll_mk1 (shut_bool Try.underlying4 _), (trodAll_cons_mk (Below.trod laidOut (by kernel_rfl) (of_decide_eq_true (by kernel_rfl)) k0 bel lt0) (trodAll_cons_mk (Below.trod laidOut (by kernel_rfl) (of_decide_eq_true (by kernel_rfl)) k1 bel lt1) trodAll_mk0)), rfl, bel.frame _, fun h => by cases h⟩

theorem over : Rows.fnExactPairOfForestsRow.holds Try.pinned (OpenSpec.ofChange Rows.fnExactPairOfForestsSpec) :=
  OpenClaim.holds_of_wide 4 Try.f4 rfl rfl rfl rfl rfl rfl rfl ⟨rfl, rfl, rfl, rfl, rfl⟩ rfl rfl rfl rfl rfl (by kernel_rfl) Try.func4 (by kernel_rfl)
    (of_decide_eq_true (by kernel_rfl)) (by unfold Func.isWrapper; first | (rw [if_pos (by decide +kernel)]; kernel_rfl) | (rw [if_neg (by decide +kernel)]; exact ⟨rfl, rfl⟩))
    (fun os started H enc _ => lifted os started H enc)

theorem proved : Rows.FnExactPairOfForestsSaid := over
#print axioms proved
end Go.Proofs.Ytplmbdljhgicfab.fnExactPairOfForests
