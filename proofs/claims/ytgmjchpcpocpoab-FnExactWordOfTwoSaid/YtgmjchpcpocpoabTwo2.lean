/- Walk: impl.WordOfTwo. -/
import Derived.Test.YtgmjchpcpocpoabTwo1
import Derived.Test.YtgmjchpcpocpoabWd2
import Derived.Test.YtgmjchpcpocpoabAns
namespace Go.Proofs.Ytgmjchpcpocpoab
open Go.RowKit

theorem twoW_take {L : List Int} {k : Nat} (h : k < L.length) : twoW (L.take (k + 1)) = twoW (L.take k) ++ twoL (L.getD k 0) := by
  unfold twoW
  rw [List.take_succ_eq_append_getElem h, List.flatMap_append]
  simp [h]
theorem twoL_small {x : Int} (h1 : -21 ≤ x) (h2 : x ≤ 21) : ∀ y ∈ twoL x, -100 ≤ y ∧ y ≤ 100 := by
  intro y hy
  unfold twoL at hy
  split at hy
  · have := List.mem_singleton.1 hy; omega
  · rcases List.mem_append.1 hy with h | h
    · have := List.eq_of_mem_replicate h; omega
    · rcases List.mem_cons.1 h with h | h
      · split at h <;> omega
      · have := List.eq_of_mem_replicate h; omega
theorem twoW_small {w : List Int} (h : ∀ x ∈ w, x ≠ 0 ∧ -21 ≤ x ∧ x ≤ 21) : ∀ y ∈ twoW w, -100 ≤ y ∧ y ≤ 100 := by
  intro y hy
  unfold twoW at hy
  obtain ⟨x, hx, hy⟩ := List.mem_flatMap.1 hy
  exact twoL_small (h x hx).2.1 (h x hx).2.2 y hy
theorem src_any {base : Nat} {w : World} {v : Value} {xs : List Int} (h : OwnI base w v xs) : SrcV w v (xs.map (Value.int .i64)) := by
  have h0 := h
  rcases h.2 with ⟨hv, hn⟩ | ⟨g, cap, cur, hv, _⟩
  · exact .inl ⟨hv, by rw [List.length_eq_zero_iff.1 hn]; rfl⟩
  · subst hv
    exact (src_own h0 rfl).1

set_option maxRecDepth 100000 in
set_option maxHeartbeats 2000000 in
theorem implTwo_yes (v : Value) (b1 : Nat) (L : List Int) (w : World) (hv : CellsI b1 w v L) (hg : goodW L = true) :
    Calls Try.prog 12 #[v] w (AnsIs (if (twoW L).length ≤ 300 then some (freeW (twoW L)) else none) w) := by
  obtain ⟨i0, hi, hz0, hz1, hz2⟩ := info_parts info_int
  have hG := implIsWord_any v b1 L w hv
  rw [hg] at hG
  have hg2 := goodW_iff.1 hg
  have hTl := twoW_length hg
  have hTs := twoW_small hg2.2
  obtain ⟨hL20, hgz⟩ := hg2
  obtain ⟨oa, cap, rfl, hcl, hcm, hcc⟩ := hv.form
  unfold maxLen at hcm
  have HC := Lib.hid hcc
  have HZ := Lib.hid hgz
  obtain ⟨O, hO⟩ : ∃ O, O = (if (twoW L).length ≤ 300 then some (freeW (twoW L)) else none) := ⟨_, rfl⟩
  rw [← hO]
  have HO := Lib.hid hO
  clear hv hcc hgz hg hO
  go_enter Try.func12, Try.ntmps12
  go_wp2_with fail
  refine hG.mono ?_; rintro e w1 ⟨rfl, rfl⟩
  clear hG
  go_wp2_with fail
  go_loopw [4, 12] (fun u i wr => ∃ (k : Nat) (xs : List Int), i = .int .i64 k ∧ k ≤ L.length ∧ xs.length ≤ 39 * k ∧ OwnI w.heap.size wr u xs ∧ Below w.heap.size w wr ∧ Hid (xs = twoW (L.take k))) (fun _ i _ => L.length - (intOf i).toNat)
  case atStart => exact ⟨0, [], rfl, Nat.zero_le _, Nat.zero_le _, OwnI.nil _ _, Below.refl _ _, rfl⟩
  case round =>
    obtain ⟨k, xs, rfl, hk, hxl, hown, hbw, he⟩ := hrel
    by_cases hlt : k < L.length
    · have hlt' : (k : Int) < (L.length : Int) := by omega
      obtain ⟨g, rfl, _, hgl, c1⟩ := HC.out k hlt
      replace c1 := (hbw.cell (p := ⟨g, k, none⟩) hgl).trans c1
      have hxm : L.getD k 0 ∈ L := by rw [List.getD_eq_getElem?_getD, List.getElem?_eq_getElem hlt]; exact List.getElem_mem _
      obtain ⟨hx0, hx1, hx2⟩ := HZ.out _ hxm
      have hstep := twoW_take hlt
      rw [← he.out] at hstep
      have hT := fun w => lettersOfTwo_any (L.getD k 0) w hx0 hx1 hx2
      have hTL := twoL_length hx0 hx1 hx2
      generalize L.getD k 0 = x at c1 hstep hT hTL hx1 hx2
      generalize twoL x = B at hstep hT hTL
      have HS := Lib.hid hstep
      clear hxm he hgl hstep hx0
      go_wp2_with fail
      refine (hT _).mono ?_; rintro e w2 ⟨vb, ownb, hb2, rfl⟩
      have hsrc := src_any ownb
      have hown2 := hown.keep hb2
      have hbw2 := nx hbw hb2
      unfold OwnI at hown2
      go_wp2_with (at_builtin; refine wpList_appSrc rfl _ _ 22 rfl w.heap.size 3 i0 (.int .i64 0) 8 Try.underlying22 hi hz0 hz1 hz2 rfl _ _ _ rfl hown2 _ _ rfl hsrc (oneInts _) (by rw [List.length_map]; unfold maxLen; omega) (by rw [List.length_map]; omega) hbw2.size ?_; intro v' w4 hown' hb4 hnn)
      rw [List.length_map] at hown'
      have hown3 : OwnI w.heap.size w4 v' (xs ++ B) := by unfold OwnI; rw [List.length_append, List.map_append]; exact hown'
      have hbw4 : Below w.heap.size w w4 := hbw2.trans hb4
      clear hown hown2 hown' hb4 hbw hbw2 hnn hsrc ownb
      go_wp2_with fail
      go_roundw
      case rel => exact ⟨k + 1, _, by go_num, by omega, by simp; omega, hown3, hbw4, HS.out.symm⟩
      case measure => simp [intOf]; omega
    · obtain rfl : k = L.length := by omega
      have he' := he.out
      rw [List.take_length] at he'
      subst he'
      clear he hxl
      have HP := HO.out
      clear HO
      generalize twoW L = T at *
      obtain ⟨ob, bcap, rfl, hf1, hf2, hfc⟩ := hown.cells.form
      have hF := fun hl => freelyReduced_any _ _ T wr hown.cells hTs (by exact hl)
      unfold maxLen at hf2
      by_cases h3 : T.length ≤ 300
      · rw [if_pos h3] at HP
        subst HP
        have hF' := hF (by omega)
        have h3' : ¬ (300 : Int) < (T.length : Int) := by omega
        clear hF hfc hTs hTl hown
        go_wp2_with fail
        refine hF'.mono ?_; rintro e w5 ⟨vf, ownf, hb5, rfl⟩
        go_wp2_with fail
        go_ret2
        exact ⟨_, ownf.mono hbw.size, nx hbw hb5, rfl⟩
      · rw [if_neg h3] at HP
        subst HP
        have h3' : (300 : Int) < (T.length : Int) := by omega
        clear hF hfc hTs hTl hown
        go_wp2_with fail
        go_ret2
        exact ⟨_, OwnI.nil _ _, hbw, rfl⟩

theorem implTwo_any (v : Value) (b1 : Nat) (L : List Int) (w : World) (hv : CellsI b1 w v L) (_hz : ∀ s ∈ L, -9223372036854775808 ≤ s ∧ s ≤ 9223372036854775807) :
    Calls Try.prog 12 #[v] w (AnsIs (twoO L) w) := by
  unfold twoO
  cases hg : goodW L with
  | true =>
    rw [if_pos rfl]
    exact implTwo_yes v b1 L w hv hg
  | false =>
    have hG := implIsWord_any v b1 L w hv
    rw [hg] at hG
    rw [if_neg (by simp)]
    clear hg hv _hz
    go_enter Try.func12, Try.ntmps12
    go_wp2_with fail
    refine hG.mono ?_; rintro e w1 ⟨rfl, rfl⟩
    go_wp2_with fail
    go_ret2
    exact ⟨_, OwnI.nil _ _, Below.refl _ _, rfl⟩
end Go.Proofs.Ytgmjchpcpocpoab
