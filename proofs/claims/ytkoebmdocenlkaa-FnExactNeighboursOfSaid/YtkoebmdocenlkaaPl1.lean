/- Walks: the places of rotations: spec.brPlaces, (*node).placesFrom. -/
import Derived.Test.YtkoebmdocenlkaaBr3
import Derived.Test.YtkoebmdocenlkaaCatT
import Derived.Test.YtkoebmdocenlkaaTreeO
namespace Go.Proofs.Ytkoebmdocenlkaa
open Go.RowKit

theorem OwnS.srcB {base : Nat} {w : World} {v : Value} {L : List ByteArray} (h : OwnS base w v L) : SrcV w v (L.map Value.string) := by
  rcases h.2 with ⟨hv, hn⟩ | ⟨g, cap, cur, hv, hb, hr⟩
  · left
    exact ⟨hv, by rw [List.length_eq_zero_iff.1 hn]; rfl⟩
  · subst hv
    refine .inr ⟨⟨g, 0, none⟩, cap, by simp, fun j x hj => ?_⟩
    have hj' : j < L.length := by have := (List.getElem?_eq_some_iff.1 hj).1; simpa using this
    rw [addr_add, World.ownsRow.cellAt h j (by omega), hj]
theorem OwnS.srcT {base : Nat} {w : World} {v : Value} {L : List ByteArray} (h : OwnS base w v L) : ∃ oa c, v = .slice oa L.length c ∧ SrcT w v L := by
  have h1 := SrcT.of h.srcB
  obtain ⟨oa, c, e⟩ := h1.2
  exact ⟨oa, c, e, h1⟩
theorem cell_newB (w : World) (cs : Array Value) (t : TypeId) (j : Nat) {u : Value} (h : cs[j]? = some u) : (w.alloc (.cells cs t (0, 0))).cell? ⟨w.heap.size, j, none⟩ = some u := by
  have := heap_alloc_at w (.cells cs t (0, 0))
  unfold World.cell?
  simp only [this]
  simpa using h

theorem here1_yes {k : Bool} {t : Tr} (h : (t.rot k).isSome = true) (here : ByteArray) : t.here1 k here = [here] := by unfold Tr.here1; rw [if_pos h]
theorem here1_no {k : Bool} {t : Tr} (h : (t.rot k).isSome = false) (here : ByteArray) : t.here1 k here = [] := by unfold Tr.here1; rw [if_neg (by simp [h])]

set_option maxRecDepth 100000 in
set_option maxHeartbeats 2000000 in
theorem brPlaces_any (k : Bool) (t : Tr) : ∀ (here : ByteArray) (w : World), t.carets ≤ 60 → here.size + t.carets ≤ 1000 →
    Calls Try.prog 53 #[.string t.str, .string here, .bool k] w (GivesOwn (t.spots k here) w) := by
  obtain ⟨i0, hi, hz0, hz1, hz2⟩ := info_parts info_str
  induction t with
  | lf =>
    intro here w ht hh
    go_enter Try.func53, Try.ntmps53
    go_wp2_with fail
    refine (trLeaf_any .lf _).mono ?_; rintro e w1 ⟨rfl, rfl⟩
    simp only [Tr.isLf]
    go_wp2_with fail
    go_ret
    exact ⟨_, OwnS.nil _ _, Below.refl _ _, rfl⟩
  | nd l r ihl ihr =>
    intro here w ht hh
    have ht' : l.carets + r.carets + 1 ≤ 60 := ht
    have hh' : here.size + (l.carets + r.carets + 1) ≤ 1000 := hh
    have ll := spots_len (k := k) l (here ++ ⟨#[48]⟩)
    have lr := spots_len (k := k) r (here ++ ⟨#[49]⟩)
    have hC : (Tr.nd l r).spots k here = (Tr.nd l r).here1 k here ++ (l.spots k (here ++ ⟨#[48]⟩) ++ r.spots k (here ++ ⟨#[49]⟩)) := rfl
    have s0 : (here ++ (⟨#[48]⟩ : ByteArray)).size = here.size + 1 := ByteArray.size_append
    have s1 : (here ++ (⟨#[49]⟩ : ByteArray)).size = here.size + 1 := ByteArray.size_append
    have jl := fun w => ihl (here ++ ⟨#[48]⟩) w (by omega) (by omega)
    have jr := fun w => ihr (here ++ ⟨#[49]⟩) w (by omega) (by omega)
    have hR := fun w => brRotate_any k (.nd l r) w ht
    rw [hC]
    generalize l.spots k (here ++ ⟨#[48]⟩) = L1 at *
    generalize r.spots k (here ++ ⟨#[49]⟩) = L2 at *
    have hz9 : here.size ≤ 1000 := by omega
    have h1n : L1.length ≤ 60 := by omega
    have h2n : L2.length ≤ 60 := by omega
    have hb0 := Below.refl w.heap.size w
    have sl : l.str.size ≤ 200 := by have := l.str_size; omega
    have sr : r.str.size ≤ 200 := by have := r.str_size; omega
    clear ihl ihr s0 s1 ll lr hC
    cases hg : ((Tr.nd l r).rot k) with
    | none =>
      rw [here1_no (by rw [hg]; rfl), List.nil_append]
      rw [hg] at hR
      have hR' : ∀ w, Calls Try.prog 87 #[.string (Tr.nd l r).str, .bool k] w (Gives (.tuple #[.string ⟨#[]⟩, .bool false]) w) := hR
      clear hR hg
      have own0 : ∀ w', OwnS w.heap.size w' (.slice none 0 0) [] := fun w' => OwnS.nil _ _
      go_enter Try.func53, Try.ntmps53
      go_wp2_with fail
      refine (trLeaf_any (.nd l r) _).mono ?_; rintro e w1 ⟨rfl, rfl⟩
      simp only [Tr.isLf]
      go_wp2_with fail
      refine (hR' _).mono ?_; rintro e w2 ⟨rfl, hb2⟩
      have hbw2 := nx hb0 hb2
      have own2 := own0 w2
      clear own0 hR'
      have hA9 : ([] : List ByteArray).length ≤ 1 := by simp
      go_wp2_with fail
      refine (trSides_any l r _ (by omega)).mono ?_; rintro e w3 ⟨rfl, hb3⟩
      replace own2 := own2.keep hb3
      have hbw3 := nx hbw2 hb3
      go_wp2_with fail
      refine (jl _).mono ?_; rintro e w4 ⟨v4, own4, hb4, rfl⟩
      replace own2 := own2.keep hb4
      have hbw4 := nx hbw3 hb4
      have src4 := own4.srcB
      have one4 := oneS L1
      have ly4 : (L1.map Value.string).length = L1.length := List.length_map _
      unfold OwnS at own2
      go_wp2_with (at_builtin; refine wpList_appSrc rfl _ _ 25 rfl w.heap.size 9 i0 (.string ⟨#[]⟩) 16 Try.underlying25 hi hz0 hz1 hz2 rfl _ _ _ rfl own2 _ _ rfl src4 one4 (by unfold maxLen; omega) (by omega) hbw4.size ?_; intro v5 w5 o9 b9 n9)
      have own5 : OwnS w.heap.size w5 v5 (([] : List ByteArray) ++ L1) := by
        unfold OwnS
        rw [List.length_append, List.map_append, ← ly4]
        exact o9
      have hbw5 := hbw4.trans b9
      clear o9 b9 n9 own4 src4 own2 hb3 hb4 hbw3 hbw4
      go_wp2_with fail
      refine (jr _).mono ?_; rintro e w6 ⟨v6, own6, hb6, rfl⟩
      replace own5 := own5.keep hb6
      have hbw6 := nx hbw5 hb6
      have src6 := own6.srcB
      have one6 := oneS L2
      have ly6 : (L2.map Value.string).length = L2.length := List.length_map _
      have la5 : (([] : List ByteArray) ++ L1).length ≤ 61 := by rw [List.length_append]; omega
      unfold OwnS at own5
      generalize hX5 : ([] : List ByteArray) ++ L1 = X5 at *
      have HX5 := Lib.hid hX5
      clear hX5
      go_wp2_with (at_builtin; refine wpList_appSrc rfl _ _ 25 rfl w.heap.size 9 i0 (.string ⟨#[]⟩) 16 Try.underlying25 hi hz0 hz1 hz2 rfl _ _ _ rfl own5 _ _ rfl src6 one6 (by unfold maxLen; omega) (by omega) hbw6.size ?_; intro v7 w7 o9 b9 n9)
      have own7 : OwnS w.heap.size w7 v7 (X5 ++ L2) := by
        unfold OwnS
        rw [List.length_append, List.map_append, ← ly6]
        exact o9
      rw [show X5 ++ L2 = L1 ++ L2 by rw [← HX5.out]; simp] at own7
      have hbw7 := hbw6.trans b9
      clear o9 b9 n9 own5 src6 own6 hbw5 hbw6 hb6
      go_wp2_with fail
      go_ret
      exact ⟨_, own7, hbw7, rfl⟩
    | some u =>
      rw [here1_yes (by rw [hg]; rfl)]
      rw [hg] at hR
      have hR' : ∀ w, Calls Try.prog 87 #[.string (Tr.nd l r).str, .bool k] w (Gives (.tuple #[.string u.str, .bool true]) w) := hR
      have su : u.str.size ≤ 200 := by have := u.str_size; have := rot_carets hg; have : (Tr.nd l r).carets = l.carets + r.carets + 1 := rfl; omega
      clear hR hg
      go_enter Try.func53, Try.ntmps53
      go_wp2_with fail
      refine (trLeaf_any (.nd l r) _).mono ?_; rintro e w1 ⟨rfl, rfl⟩
      simp only [Tr.isLf]
      go_wp2_with fail
      refine (hR' _).mono ?_; rintro e w2 ⟨rfl, hb2⟩
      have hbw2 := nx hb0 hb2
      have hown : w2.ownsRow w.heap.size 9 1 (.slice none 0 0) 0 [] := World.ownsRow_nil _ _ _ _
      clear hR'
      go_wp2_with (at_builtin; refine wpList_append_own _ rfl _ _ 25 rfl w.heap.size 9 i0 (.string ⟨#[]⟩) 1 16 Try.underlying25 hi hz0 hz1 hz2 rfl (by decide) _ _ _ rfl (hown.alloc _) ⟨w2.heap.size, 0, none⟩ 1 1 [.string here] rfl rfl (new1 _ _ _) (oneS [here]) (by unfold maxLen; omega) (by omega) (size_al hbw2 _) ?_; intro v' w9 hown' hgrow hnn)
      have hbw9 := below_app hbw2 hown (Nat.le_refl _) hgrow
      have own9 : OwnS w.heap.size w9 v' ([] ++ [here]) := OwnS.app (A := []) (B := [here]) hown'
      rw [List.nil_append] at own9
      clear hown hown' hgrow hnn hbw2 hb2
      have hA9 : [here].length ≤ 1 := by simp
      go_wp2_with fail
      refine (trSides_any l r _ (by omega)).mono ?_; rintro e w3 ⟨rfl, hb3⟩
      replace own9 := own9.keep hb3
      have hbw3 := nx hbw9 hb3
      go_wp2_with fail
      refine (jl _).mono ?_; rintro e w4 ⟨v4, own4, hb4, rfl⟩
      replace own9 := own9.keep hb4
      have hbw4 := nx hbw3 hb4
      have src4 := own4.srcB
      have one4 := oneS L1
      have ly4 : (L1.map Value.string).length = L1.length := List.length_map _
      unfold OwnS at own9
      go_wp2_with (at_builtin; refine wpList_appSrc rfl _ _ 25 rfl w.heap.size 9 i0 (.string ⟨#[]⟩) 16 Try.underlying25 hi hz0 hz1 hz2 rfl _ _ _ rfl own9 _ _ rfl src4 one4 (by unfold maxLen; omega) (by omega) hbw4.size ?_; intro v5 w5 o9 b9 n9)
      have own5 : OwnS w.heap.size w5 v5 ([here] ++ L1) := by
        unfold OwnS
        rw [List.length_append, List.map_append, ← ly4]
        exact o9
      have hbw5 := hbw4.trans b9
      clear o9 b9 n9 own4 src4 own9 hb3 hb4 hbw3 hbw4
      go_wp2_with fail
      refine (jr _).mono ?_; rintro e w6 ⟨v6, own6, hb6, rfl⟩
      replace own5 := own5.keep hb6
      have hbw6 := nx hbw5 hb6
      have src6 := own6.srcB
      have one6 := oneS L2
      have ly6 : (L2.map Value.string).length = L2.length := List.length_map _
      have la5 : ([here] ++ L1).length ≤ 61 := by rw [List.length_append]; omega
      unfold OwnS at own5
      generalize hX5 : [here] ++ L1 = X5 at *
      have HX5 := Lib.hid hX5
      clear hX5
      go_wp2_with (at_builtin; refine wpList_appSrc rfl _ _ 25 rfl w.heap.size 9 i0 (.string ⟨#[]⟩) 16 Try.underlying25 hi hz0 hz1 hz2 rfl _ _ _ rfl own5 _ _ rfl src6 one6 (by unfold maxLen; omega) (by omega) hbw6.size ?_; intro v7 w7 o9 b9 n9)
      have own7 : OwnS w.heap.size w7 v7 (X5 ++ L2) := by
        unfold OwnS
        rw [List.length_append, List.map_append, ← ly6]
        exact o9
      rw [show X5 ++ L2 = [here] ++ (L1 ++ L2) by rw [← HX5.out]; simp] at own7
      have hbw7 := hbw6.trans b9
      clear o9 b9 n9 own5 src6 own6 hbw5 hbw6 hb6
      go_wp2_with fail
      go_ret
      exact ⟨_, own7, hbw7, rfl⟩
end Go.Proofs.Ytkoebmdocenlkaa
