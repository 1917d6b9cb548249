/- Walks: spec.trAddresses, (*node).addressesFrom. -/
import Derived.Test.YtkoebmdocenlkabDoorRowS
import Derived.Test.YtkoebmdocenlkabDoorAddrP
import Derived.Test.YtkoebmdocenlkabDoorSpecTr
import Derived.Test.YtkoebmdocenlkabDoorMir
import Derived.Deep.RegionHeld3
import Derived.Deep.AppendLies
namespace Go.Proofs.YtkoebmdocenlkabDoor
open Go.RowKit

set_option maxRecDepth 100000 in
set_option maxHeartbeats 2000000 in
theorem trAddresses_any (t : Tr) : ∀ (here : ByteArray) (w : World), t.carets ≤ 60 → here.size + t.carets ≤ 1000 →
    Calls Tryd.prog 84 #[.string t.str, .string here] w (GivesTexts (t.addrs here) w) := by
  obtain ⟨i0, hi, hz0, hz1, hz2⟩ := info_parts info_str
  induction t with
  | lf =>
    intro here w ht hh
    go_enter Tryd.func84, Tryd.ntmps84
    go_wp2_with fail
    refine (trLeaf_any .lf _).mono ?_; rintro e w1 ⟨rfl, rfl⟩
    simp only [Tr.isLf]
    go_wp2_with fail
    go_ret
    exact ⟨_, 1, OwnS.one _ _, nxAlloc (Below.refl _ _) _, rfl⟩
  | nd l r ihl ihr =>
    intro here w ht hh
    have ht' : l.carets + r.carets + 1 ≤ 60 := ht
    have hh' : here.size + (l.carets + r.carets + 1) ≤ 1000 := hh
    have ll := addrs_length l (here ++ ⟨#[48]⟩)
    have lr := addrs_length r (here ++ ⟨#[49]⟩)
    obtain ⟨A, hA⟩ : ∃ A, A = l.addrs (here ++ ⟨#[48]⟩) := ⟨_, rfl⟩
    obtain ⟨B, hB⟩ : ∃ B, B = r.addrs (here ++ ⟨#[49]⟩) := ⟨_, rfl⟩
    have hC : (Tr.nd l r).addrs here = A ++ B := by rw [hA, hB]; rfl
    have s0 : (here ++ (⟨#[48]⟩ : ByteArray)).size = here.size + 1 := ByteArray.size_append
    have s1 : (here ++ (⟨#[49]⟩ : ByteArray)).size = here.size + 1 := ByteArray.size_append
    have jl := fun w => ihl (here ++ ⟨#[48]⟩) w (by omega) (by omega)
    have jr := fun w => ihr (here ++ ⟨#[49]⟩) w (by omega) (by omega)
    rw [← hA] at ll jl
    rw [← hB] at lr jr
    rw [hC]
    have hAn : A.length ≤ 61 := by omega
    have hBn : B.length ≤ 61 := by omega
    have hBp : 0 < B.length := by omega
    have hAp : 0 < A.length := by omega
    clear ihl ihr hA hB hC s0 s1 ll lr
    go_enter Tryd.func84, Tryd.ntmps84
    go_wp2_with fail
    refine (trLeaf_any (.nd l r) _).mono ?_; rintro e w1 ⟨rfl, rfl⟩
    simp only [Tr.isLf]
    go_wp2_with fail
    refine (trSides_any l r _ (by omega)).mono ?_; rintro e w1 ⟨rfl, hb1⟩
    go_wp2_with fail
    refine (jl _).mono ?_; rintro e w2 ⟨g1, cap1, own1, hb2, rfl⟩
    go_wp2_with fail
    refine (jr _).mono ?_; rintro e w3 ⟨g2, cap2, own2, hb3, rfl⟩
    have hown := (own1.keep hb3).mono hb1.size
    have hbw : Below w.heap.size w w3 := nx (nx hb1 hb2) hb3
    go_wp2_with (at_builtin; refine wpList_append_own _ rfl _ _ 77 rfl w.heap.size 9 i0 (.string ⟨#[]⟩) 1 16 Tryd.underlying77 hi hz0 hz1 hz2 rfl (by decide) _ _ _ rfl hown ⟨g2, 0, none⟩ B.length cap2 (B.map Value.string) rfl (by simp) (own2.news rfl) (oneS _) (by unfold maxLen; omega) (by omega) hbw.size ?_; intro v' w4 hown' hgrow hnn)
    have hbw' := below_app0 hbw hown (Nat.le_refl _) hgrow
    have hown1 := OwnS.app hown'
    obtain ⟨g, cap, hv⟩ := hown1.shape (by simp; omega)
    have HV := Lib.hid hv
    clear hown hown' hgrow hv hnn
    go_wp2_with fail
    go_ret
    exact ⟨g, cap, by rw [← HV.out]; exact hown1, hbw', by rw [← HV.out]; rfl⟩

set_option maxRecDepth 100000 in
set_option maxHeartbeats 4000000 in
theorem addressesFrom_any (t : Tr) : ∀ (b : Nat) (here : ByteArray) (w : World), NodeAt w t b → t.carets ≤ 60 → here.size + t.carets ≤ 1000 →
    Calls Tryd.prog 58 #[.pointer (some ⟨b, 0, none⟩), .string here] w (GivesTexts (t.addrs here) w) := by
  obtain ⟨i0, hi, hz0, hz1, hz2⟩ := info_parts info_str
  induction t with
  | lf =>
    intro b here w h ht hh
    have H := Lib.hid h
    clear h
    go_enter Tryd.func58, Tryd.ntmps58
    go_wp2_with fail
    refine (isLeaf_any .lf b _ H.out).mono ?_; rintro e w1 ⟨rfl, rfl⟩
    simp only [Tr.isLf]
    go_wp2_with fail
    go_ret
    exact ⟨_, 1, OwnS.one _ _, nxAlloc (Below.refl _ _) _, rfl⟩
  | nd l r ihl ihr =>
    intro b here w h ht hh
    have ht' : l.carets + r.carets + 1 ≤ 60 := ht
    have hh' : here.size + (l.carets + r.carets + 1) ≤ 1000 := hh
    have ll := addrs_length l (here ++ ⟨#[48]⟩)
    have lr := addrs_length r (here ++ ⟨#[49]⟩)
    obtain ⟨A, hA⟩ : ∃ A, A = l.addrs (here ++ ⟨#[48]⟩) := ⟨_, rfl⟩
    obtain ⟨B, hB⟩ : ∃ B, B = r.addrs (here ++ ⟨#[49]⟩) := ⟨_, rfl⟩
    have hC : (Tr.nd l r).addrs here = A ++ B := by rw [hA, hB]; rfl
    have s0 : (here ++ (⟨#[48]⟩ : ByteArray)).size = here.size + 1 := ByteArray.size_append
    have s1 : (here ++ (⟨#[49]⟩ : ByteArray)).size = here.size + 1 := ByteArray.size_append
    have jl := fun b w h => ihl b (here ++ ⟨#[48]⟩) w h (by omega) (by omega)
    have jr := fun b w h => ihr b (here ++ ⟨#[49]⟩) w h (by omega) (by omega)
    rw [← hA] at ll jl
    rw [← hB] at lr jr
    rw [hC]
    have hAn : A.length ≤ 61 := by omega
    have hBn : B.length ≤ 61 := by omega
    have hBp : 0 < B.length := by omega
    have hAp : 0 < A.length := by omega
    have H := Lib.hid h
    obtain ⟨bl, br, h, hl, hr⟩ := h
    have h1 := two_left h
    have h2 := two_right h
    have hb0 := Below.refl w.heap.size w
    have hz3 : (9223372036854775807 < here.size + 1) = False := eq_false (by omega)
    clear h ihl ihr hA hB hC s0 s1 ll lr
    go_enter Tryd.func58, Tryd.ntmps58
    go_wp2_with fail
    refine (isLeaf_any (.nd l r) b _ H.out).mono ?_; rintro e w1 ⟨rfl, rfl⟩
    simp only [Tr.isLf]
    go_wp2_with fail
    go_region_held3 (fun w' => w'.cell? ⟨b, 0, none⟩ = some (.pointer (some ⟨bl, 0, none⟩)) ∧ w'.cell? ⟨b, 1, none⟩ = some (.pointer (some ⟨br, 0, none⟩)))
      (first
        | exact ⟨h1, h2⟩
        | exact ⟨q1, q2⟩
        | exact ⟨s1, s2⟩
        | exact ⟨r1, r2⟩)
      (first
        | (go_at_call_of 58 (some (⟨bl, 0, none⟩ : Addr)); refine (jl bl _ ?_).mono ?_; exact hl.keep hb0.drew; rintro e w1 ⟨g1, cap1, own1, hb1, rfl⟩; have hb1' := nx hb0.drew hb1; obtain ⟨q1, q2⟩ := below_two hb1' h1 h2)
        | (go_at_call_of 58 (some (⟨br, 0, none⟩ : Addr)); refine (jr br _ ?_).mono ?_; exact hr.keep hb1'; rintro e w2 ⟨g2, cap2, own2, hb2, rfl⟩; have hb2' := nx hb1' hb2; obtain ⟨s1, s2⟩ := below_two hb2' h1 h2; have hown := (own1.keep hb2).mono hb0.drew.size)
        | (refine step_append_lies _ (by rfl) _ _ _ (by rfl) w.heap.size 9 i0 _ 1 16 Tryd.underlying77 hi hz0 hz1 hz2 rfl (by omega) (.slice (some ⟨g1, 0, none⟩) A.length cap1) A.length (A.map Value.string) (by rfl) hown ⟨g2, 0, none⟩ B.length cap2 (B.map Value.string) (by rfl) (by simp) (own2.news rfl) (oneS _) hBp (by unfold maxLen; omega) (by omega) hb2'.size w2.heap.size (by rfl) ?_; intro gg cap w3 hown1 hgrow hat hlt; have hb3 := below_app0 hb2' hown (Nat.le_refl _) hgrow; obtain ⟨r1, r2⟩ := below_two hb3 h1 h2))
    go_wp2_with fail
    go_ret
    exact ⟨gg, cap, by rw [List.length_append]; exact OwnS.app hown1, hb3, by rw [List.length_append]; rfl⟩
end Go.Proofs.YtkoebmdocenlkabDoor
