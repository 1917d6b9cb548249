/- Walks: LeavesOfForest, CountForestCarets of both sides. -/
import Derived.Test.YtplmbdljhgicfaaFf3
import Derived.Test.YtplmbdljhgicfaaFfQ
namespace Go.Proofs.Ytplmbdljhgicfaa
open Go.RowKit

def natO (o : Option (List Tr)) (f : List Tr → Nat) : Value := .tuple #[.int .i64 (match o with | some us => (f us : Int) | none => 0), .bool o.isSome]
theorem forOf_strs {L : List ByteArray} {us : List Tr} (h : forOf L = some us) : L = strs us ∧ us.length ≤ 8 ∧ sumT us ≤ 8 ∧ lastB us = true := forOf_some h

set_option maxRecDepth 100000 in
set_option maxHeartbeats 2000000 in
theorem foCarets_any (v : Value) (b : Nat) (us : List Tr) (w : World) (h : CellsS b w v (strs us)) (hs : sumT us ≤ 1000) (_hn : us.length ≤ 1000) :
    Calls Try.prog 46 #[v] w (Gives (.int .i64 (sumT us)) w) := by
  obtain ⟨oa, cap, rfl, hcl, hcm, hcc⟩ := h.form0
  unfold maxLen at hcm
  rw [strs_length] at *
  have HC := Lib.hid hcc
  have HS := Lib.hid hs
  clear h hcc hs
  go_enter Try.func46, Try.ntmps46
  go_wp2_with fail
  go_loopw [3, 8] (fun c i wr => ∃ k n : Nat, k ≤ us.length ∧ i = .int .i64 k ∧ c = .int .i64 n ∧ Hid (n = sumT (us.take k)) ∧ n ≤ 1000 ∧ Below w.heap.size w wr) (fun _ i _ => us.length - (intOf i).toNat)
  case atStart => exact ⟨0, 0, Nat.zero_le _, rfl, rfl, rfl, by omega, Below.refl _ _⟩
  case round =>
    obtain ⟨k, n, hk, rfl, rfl, he, hnn, hbw⟩ := hrel
    by_cases hlt : k < us.length
    · have hlt' : (k : Int) < (us.length : Int) := by omega
      obtain ⟨g, rfl, _, hgl, c0⟩ := HC.out k hlt
      have c1 := (hbw.cell (p := ⟨g, k, none⟩) hgl).trans c0
      have hstep : sumT (us.take (k + 1)) = sumT (us.take k) + (us.getD k .lf).carets := by
        rw [List.take_succ_eq_append_getElem hlt, sumT_app]
        simp [sumT, hlt]
      have hle : sumT (us.take (k + 1)) ≤ sumT us := by
        have := sumT_app (us.take (k + 1)) (us.drop (k + 1))
        rw [List.take_append_drop] at this; omega
      rw [show (strs us).getD k ⟨#[]⟩ = (us.getD k .lf).str from map_getD us k hlt] at c1
      generalize us.getD k .lf = t at *
      have hsum := HS.out
      have hnew : n + t.carets = sumT (us.take (k + 1)) := by have := he.out; omega
      have HN := Lib.hid hnew
      have hct : t.carets ≤ 1000 := by omega
      have hnt : n + t.carets ≤ 1000 := by omega
      have hC := fun w => carets_str t w hct
      clear hstep hle hsum hnew he c0
      go_wp2_with fail
      refine (hC _).mono ?_; rintro e w3 ⟨rfl, rfl⟩
      go_wp2_with fail
      go_roundw
      case rel => exact ⟨k + 1, n + t.carets, by omega, by go_num, by go_num, HN, by omega, hbw⟩
      case measure => simp [intOf]; omega
    · obtain rfl : k = us.length := by omega
      have h1 := he.out
      rw [List.take_of_length_le (Nat.le_refl _)] at h1
      have HE := Lib.hid h1
      clear he h1
      go_wp2_with fail
      go_ret
      exact ⟨by rw [HE.out]; rfl, hbw⟩

set_option maxRecDepth 100000 in
theorem leavesIn_any (v : Value) (b : Nat) (us : List Tr) (w : World) (h : CellsS b w v (strs us)) (hs : sumT us ≤ 1000) (hn : us.length ≤ 1000) :
    Calls Try.prog 47 #[v] w (Gives (.int .i64 (leavesL us)) w) := by
  have hC := fun w h => caretsIn_any v b us w h hs hn
  have HH := Lib.hid h
  obtain ⟨oa, cap, rfl, hcl, hcm, _⟩ := h.form0
  unfold maxLen at hcm
  rw [strs_length] at *
  clear h
  have hN : ∀ n : Nat, Hid (n = sumT us) → Hid ((n : Int) + us.length = (leavesL us : Nat)) := fun n h => by have := h.out; show (n : Int) + us.length = (leavesL us : Nat); unfold leavesL; omega
  have HN := hN _ (Lib.hid rfl)
  clear hN
  generalize leavesL us = m at *
  generalize sumT us = n at *
  go_enter Try.func47, Try.ntmps47
  go_wp2_with fail
  refine (hC _ HH.out).mono ?_; rintro e w1 ⟨rfl, hb1⟩
  go_wp2_with fail
  go_ret
  exact ⟨ret_int HN.out, hb1⟩

set_option maxRecDepth 100000 in
set_option maxHeartbeats 2000000 in
theorem specCountForestCarets_any (v : Value) (b : Nat) (L : List ByteArray) (w : World) (h : CellsS b w v L) (hz : ∀ s ∈ L, s.size ≤ 1048576) (hn : L.length ≤ 1048576) :
    Calls Try.prog 20 #[v] w (Gives (natO (forOf L) sumT) w) := by
  have hG := fun w h => foGood_any v b L w h hz hn
  have HH := Lib.hid h
  obtain ⟨oa, cap, rfl, hcl, hcm, _⟩ := h.form0
  unfold maxLen at hcm
  clear h hz
  rcases hf : forOf L with _ | us
  · rw [hf] at hG
    have hG' : ∀ w, CellsS b w (.slice oa L.length cap) L → Calls Try.prog 41 #[.slice oa L.length cap] w (Gives (.bool false) w) := hG
    clear hG hf
    go_enter Try.func20, Try.ntmps20
    go_wp2_with fail
    refine (hG' _ HH.out).mono ?_; rintro e w1 ⟨rfl, hb1⟩
    go_wp2_with fail
    go_ret2
    exact ⟨rfl, hb1⟩
  · rw [hf] at hG
    have hG' : ∀ w, CellsS b w (.slice oa L.length cap) L → Calls Try.prog 41 #[.slice oa L.length cap] w (Gives (.bool true) w) := hG
    obtain ⟨hL, hl8, hs8, hlast⟩ := forOf_strs hf
    have hC := fun w h => foCarets_any (.slice oa L.length cap) b us w h (by omega) (by omega)
    have hus : L.length = us.length := by rw [hL, strs_length]
    have HC : Hid (∀ w, CellsS b w (.slice oa L.length cap) L → CellsS b w (.slice oa L.length cap) (strs us)) := fun w h => by rw [← hL]; exact h
    have HU := Lib.hid hus
    clear hG hf hL hlast hus
    go_enter Try.func20, Try.ntmps20
    go_wp2_with fail
    refine (hG' _ HH.out).mono ?_; rintro e w1 ⟨rfl, hb1⟩
    go_wp2_with fail
    refine (hC _ (HC.out _ (HH.out.keep hb1))).mono ?_; rintro e w2 ⟨rfl, hb2⟩
    go_wp2_with fail
    go_ret2
    exact ⟨rfl, nx hb1 hb2⟩

set_option maxRecDepth 100000 in
set_option maxHeartbeats 2000000 in
theorem implCountForestCarets_any (v : Value) (b : Nat) (L : List ByteArray) (w : World) (h : CellsS b w v L) (hz : ∀ s ∈ L, s.size ≤ 1048576) (hn : L.length ≤ 1048576) :
    Calls Try.prog 21 #[v] w (Gives (natO (forOf L) sumT) w) := by
  have hG := fun w h => implIsForest_b v b L w h hz hn
  have HH := Lib.hid h
  obtain ⟨oa, cap, rfl, hcl, hcm, _⟩ := h.form0
  unfold maxLen at hcm
  clear h hz
  rcases hf : forOf L with _ | us
  · rw [hf] at hG
    have hG' : ∀ w, CellsS b w (.slice oa L.length cap) L → Calls Try.prog 16 #[.slice oa L.length cap] w (Gives (.bool false) w) := hG
    clear hG hf
    go_enter Try.func21, Try.ntmps21
    go_wp2_with fail
    refine (hG' _ HH.out).mono ?_; rintro e w1 ⟨rfl, hb1⟩
    go_wp2_with fail
    go_ret2
    exact ⟨rfl, hb1⟩
  · rw [hf] at hG
    have hG' : ∀ w, CellsS b w (.slice oa L.length cap) L → Calls Try.prog 16 #[.slice oa L.length cap] w (Gives (.bool true) w) := hG
    obtain ⟨hL, hl8, hs8, hlast⟩ := forOf_strs hf
    have hC := fun w h => caretsIn_any (.slice oa L.length cap) b us w h (by omega) (by omega)
    have hus : L.length = us.length := by rw [hL, strs_length]
    have HC : Hid (∀ w, CellsS b w (.slice oa L.length cap) L → CellsS b w (.slice oa L.length cap) (strs us)) := fun w h => by rw [← hL]; exact h
    have HU := Lib.hid hus
    clear hG hf hL hlast hus
    go_enter Try.func21, Try.ntmps21
    go_wp2_with fail
    refine (hG' _ HH.out).mono ?_; rintro e w1 ⟨rfl, hb1⟩
    go_wp2_with fail
    refine (hC _ (HC.out _ (HH.out.keep hb1))).mono ?_; rintro e w2 ⟨rfl, hb2⟩
    go_wp2_with fail
    go_ret2
    exact ⟨rfl, nx hb1 hb2⟩

set_option maxRecDepth 100000 in
set_option maxHeartbeats 2000000 in
theorem implLeavesOfForest_any (v : Value) (b : Nat) (L : List ByteArray) (w : World) (h : CellsS b w v L) (hz : ∀ s ∈ L, s.size ≤ 1048576) (hn : L.length ≤ 1048576) :
    Calls Try.prog 19 #[v] w (Gives (natO (forOf L) leavesL) w) := by
  have hG := fun w h => implIsForest_b v b L w h hz hn
  have HH := Lib.hid h
  obtain ⟨oa, cap, rfl, hcl, hcm, _⟩ := h.form0
  unfold maxLen at hcm
  clear h hz
  rcases hf : forOf L with _ | us
  · rw [hf] at hG
    have hG' : ∀ w, CellsS b w (.slice oa L.length cap) L → Calls Try.prog 16 #[.slice oa L.length cap] w (Gives (.bool false) w) := hG
    clear hG hf
    go_enter Try.func19, Try.ntmps19
    go_wp2_with fail
    refine (hG' _ HH.out).mono ?_; rintro e w1 ⟨rfl, hb1⟩
    go_wp2_with fail
    go_ret2
    exact ⟨rfl, hb1⟩
  · rw [hf] at hG
    have hG' : ∀ w, CellsS b w (.slice oa L.length cap) L → Calls Try.prog 16 #[.slice oa L.length cap] w (Gives (.bool true) w) := hG
    obtain ⟨hL, hl8, hs8, hlast⟩ := forOf_strs hf
    have hC := fun w h => leavesIn_any (.slice oa L.length cap) b us w h (by omega) (by omega)
    have hus : L.length = us.length := by rw [hL, strs_length]
    have HC : Hid (∀ w, CellsS b w (.slice oa L.length cap) L → CellsS b w (.slice oa L.length cap) (strs us)) := fun w h => by rw [← hL]; exact h
    have HU := Lib.hid hus
    clear hG hf hL hlast hus
    go_enter Try.func19, Try.ntmps19
    go_wp2_with fail
    refine (hG' _ HH.out).mono ?_; rintro e w1 ⟨rfl, hb1⟩
    go_wp2_with fail
    refine (hC _ (HC.out _ (HH.out.keep hb1))).mono ?_; rintro e w2 ⟨rfl, hb2⟩
    go_wp2_with fail
    go_ret2
    exact ⟨rfl, nx hb1 hb2⟩

set_option maxRecDepth 100000 in
set_option maxHeartbeats 2000000 in
theorem specLeavesOfForest_any (v : Value) (b : Nat) (L : List ByteArray) (w : World) (h : CellsS b w v L) (hz : ∀ s ∈ L, s.size ≤ 1048576) (hn : L.length ≤ 1048576) :
    Calls Try.prog 18 #[v] w (Gives (natO (forOf L) leavesL) w) := by
  have hG := fun w h => foGood_any v b L w h hz hn
  have HH := Lib.hid h
  obtain ⟨oa, cap, rfl, hcl, hcm, _⟩ := h.form0
  unfold maxLen at hcm
  clear h hz
  rcases hf : forOf L with _ | us
  · rw [hf] at hG
    have hG' : ∀ w, CellsS b w (.slice oa L.length cap) L → Calls Try.prog 41 #[.slice oa L.length cap] w (Gives (.bool false) w) := hG
    clear hG hf
    go_enter Try.func18, Try.ntmps18
    go_wp2_with fail
    refine (hG' _ HH.out).mono ?_; rintro e w1 ⟨rfl, hb1⟩
    go_wp2_with fail
    go_ret2
    exact ⟨rfl, hb1⟩
  · rw [hf] at hG
    have hG' : ∀ w, CellsS b w (.slice oa L.length cap) L → Calls Try.prog 41 #[.slice oa L.length cap] w (Gives (.bool true) w) := hG
    obtain ⟨hL, hl8, hs8, hlast⟩ := forOf_strs hf
    have hC := fun w h => foCarets_any (.slice oa L.length cap) b us w h (by omega) (by omega)
    have hus : L.length = us.length := by rw [hL, strs_length]
    have HC : Hid (∀ w, CellsS b w (.slice oa L.length cap) L → CellsS b w (.slice oa L.length cap) (strs us)) := fun w h => by rw [← hL]; exact h
    have HV : Hid ((L.length : Int) + (sumT us : Int) = ((leavesL us : Nat) : Int)) := by show (L.length : Int) + (sumT us : Int) = ((leavesL us : Nat) : Int); unfold leavesL; omega
    clear hG hf hL hlast hus
    go_enter Try.func18, Try.ntmps18
    go_wp2_with fail
    refine (hG' _ HH.out).mono ?_; rintro e w1 ⟨rfl, hb1⟩
    go_wp2_with fail
    refine (hC _ (HC.out _ (HH.out.keep hb1))).mono ?_; rintro e w2 ⟨rfl, hb2⟩
    go_wp2_with fail
    go_ret2
    exact ⟨by show _ = Ending.returned (.tuple #[.int .i64 ((leavesL us : Nat) : Int), .bool true]); rw [← HV.out]; rfl, nx hb1 hb2⟩

theorem specIsForest_any (v : Value) (b : Nat) (L : List ByteArray) (w : World) (h : CellsS b w v L) (hz : ∀ s ∈ L, s.size ≤ 1048576) (hn : L.length ≤ 1048576) :
    Calls Try.prog 14 #[v] w (Gives (.bool (forOf L).isSome) w) := by
  have hG := foGood_any v b L w h hz hn
  obtain ⟨oa, cap, rfl, _⟩ := h.form0
  clear h
  go_enter Try.func14, Try.ntmps14
  go_wp2_with fail
  refine hG.mono ?_; rintro e w1 ⟨rfl, hb1⟩
  go_wp2_with fail
  go_ret
  exact ⟨rfl, hb1⟩
theorem implIsForest_any (v : Value) (b : Nat) (L : List ByteArray) (w : World) (h : CellsS b w v L) (hz : ∀ s ∈ L, s.size ≤ 1048576) (hn : L.length ≤ 1048576) :
    Calls Try.prog 16 #[v] w (Gives (.bool (forOf L).isSome) w) := implIsForest_b v b L w h hz hn
end Go.Proofs.Ytplmbdljhgicfaa
