/- Walks: impl.chainOf. -/
import Derived.Test.YtkoebmdocenlkaaCh3
import Derived.Deep.AppendLies
namespace Go.Proofs.Ytkoebmdocenlkaa
open Go.RowKit

def accK (ps : List (List Tr)) (k : Nat) : List ByteArray := (ps.take k).foldl (fun acc p => acc.take (acc.length - 1) ++ strL p) []
theorem accK_zero (ps : List (List Tr)) : accK ps 0 = [] := rfl
theorem accK_succ {ps : List (List Tr)} {k : Nat} (h : k < ps.length) : accK ps (k + 1) = (accK ps k).take ((accK ps k).length - 1) ++ strL (ps.getD k []) := by
  unfold accK
  rw [List.take_succ_eq_append_getElem h, List.foldl_append]
  simp [h]
theorem accK_len {ps : List (List Tr)} (hp : ∀ p ∈ ps, p.length ≤ 65) : ∀ k, k ≤ ps.length → (accK ps k).length ≤ 65 * k := by
  intro k
  induction k with
  | zero => intro _; simp [accK_zero]
  | succ k ih =>
    intro hk
    have h1 := ih (by omega)
    have h2 := hp (ps.getD k []) (by rw [List.getD_eq_getElem?_getD, List.getElem?_eq_getElem hk]; exact List.getElem_mem _)
    rw [accK_succ (by omega), List.length_append, strL_length, List.length_take]
    omega
theorem accK_pos {ps : List (List Tr)} (hp : ∀ p ∈ ps, 1 ≤ p.length) : ∀ k, 1 ≤ k → k ≤ ps.length → 1 ≤ (accK ps k).length := by
  intro k h1 hk
  obtain ⟨j, rfl⟩ : ∃ j, k = j + 1 := ⟨k - 1, by omega⟩
  have h2 := hp (ps.getD j []) (by rw [List.getD_eq_getElem?_getD, List.getElem?_eq_getElem (by omega)]; exact List.getElem_mem _)
  rw [accK_succ (by omega), List.length_append, strL_length]
  omega
/-- Parts of a chain, in a row of their own. -/
def PartsL (w : World) (g : Nat) (us : List Value) (ps : List (List Tr)) : Prop :=
  ∀ i, i < ps.length → w.cell? ⟨g, i, none⟩ = some (us.getD i undef) ∧ ∃ bs, CellsL w (us.getD i undef) bs ∧ NodesL w (ps.getD i []) bs
theorem PartsL.keep {w w' : World} {g : Nat} {us : List Value} {ps : List (List Tr)} (h : PartsL w g us ps) (hb : Below w.heap.size w w') : PartsL w' g us ps := by
  intro i hi
  obtain ⟨h1, bs, h2, h3⟩ := h i hi
  exact ⟨(hb.cell (p := ⟨g, i, none⟩) (World.block_lt_of_cell? w _ h1)).trans h1, bs, h2.keep hb, h3.keep hb⟩
theorem ownsRow_cut {w : World} {base g cap n : Nat} {e : TypeId} {xs : List Value} (h : w.ownsRow base e 1 (.slice (some ⟨g, 0, none⟩) n cap) n xs) (k : Nat) (hk : k ≤ n) : w.ownsRow base e 1 (.slice (some ⟨g, 0, none⟩) k cap) k (xs.take k) := by
  obtain ⟨h1, h2⟩ := h
  rcases h2 with ⟨h0, _⟩ | ⟨g', cap', cur, hv, hg, hh, hn, hcap, hsz, htake⟩
  · cases h0
  · cases hv
    refine ⟨by rw [List.length_take]; omega, .inr ⟨g, cap, cur, rfl, hg, hh, by omega, hcap, hsz, ?_⟩⟩
    rw [← htake, List.take_take, Nat.mul_one, Nat.mul_one, Nat.min_eq_left hk]

set_option maxRecDepth 100000 in
set_option maxHeartbeats 2000000 in
theorem chainOf_any (g n cap : Nat) (us : List Value) (ps : List (List Tr)) (w : World) (h : PartsL w g us ps) (hn : ps.length = n) (hn9 : n ≤ 2) (hp : ∀ p ∈ ps, p.length ≤ 65 ∧ 1 ≤ p.length) (hc : ∀ p ∈ ps, ∀ t ∈ p, t.carets ≤ 8) :
    Calls Try.prog 66 #[.slice (some ⟨g, 0, none⟩) n cap] w (GivesOwn (accK ps n) w) := by
  obtain ⟨i0, hi, hz0, hz1, hz2⟩ := info_parts info_str
  have HP := Lib.hid h
  have HN := Lib.hid hn
  have HL := Lib.hid hp
  have HC := Lib.hid hc
  clear h hn hp hc
  go_enter Try.func66, Try.ntmps66
  go_wp2_with fail
  go_loopw [3, 9] (fun v i wr => ∃ k : Nat, i = .int .i64 k ∧ k ≤ n ∧ OwnS w.heap.size wr v (accK ps k) ∧ (k = 0 → v = .slice none 0 0) ∧ Below w.heap.size w wr) (fun _ i _ => n - (intOf i).toNat)
  case atStart => exact ⟨0, rfl, Nat.zero_le _, OwnS.nil _ _, fun _ => rfl, Below.refl _ _⟩
  case round =>
    obtain ⟨k, rfl, hk, hown, hnil, hbw⟩ := hrel
    by_cases hlt : k < n
    · have hlt' : (k : Int) < (n : Int) := by omega
      have hkp : k < ps.length := by have := HN.out; omega
      obtain ⟨c1, bs, hcl, hns⟩ := (HP.out.keep hbw) k hkp
      have hmem : ps.getD k [] ∈ ps := by rw [List.getD_eq_getElem?_getD, List.getElem?_eq_getElem hkp]; exact List.getElem_mem _
      obtain ⟨hp1, hp2⟩ := HL.out _ hmem
      have hLO1 := fun w h h2 => listOfLink_any (us.getD k undef) (ps.getD k []) bs w h h2 (fun x hx => by have := HC.out _ hmem x hx; omega) (by omega)
      have hcl0 := hcl
      obtain ⟨oa, cu, hu, hu9, _⟩ := hcl
      have hsucc := accK_succ hkp
      have hsl := strL_length (ps.getD k [])
      have hal := accK_len (ps := ps) (fun p hp => (HL.out p hp).1) k (by omega)
      generalize us.getD k undef = u at *
      generalize ps.getD k [] = part at *
      generalize strL part = X at *
      have hX1 : X.length ≤ 65 := by omega
      have hX2 : 1 ≤ X.length := by omega
      have HCL := Lib.hid hcl0
      have HNS := Lib.hid hns
      by_cases hk0 : k = 0
      · subst hk0
        obtain rfl := hnil rfl
        rw [accK_zero] at hsucc
        have hsx : Hid (accK ps 1 = X) := by
          show _ = _
          simpa using hsucc
        have hrow : wr.ownsRow w.heap.size 9 1 (.slice none 0 0) 0 [] := World.ownsRow_nil _ _ _ _
        clear hsucc hown hnil hcl0 hns hsl hp1 hp2
        subst hu
        go_wp2_with fail
        refine wp_region_held_drew (S := (fun (_ : World) => True)) (by kernel_rfl) trivial (fun hH0 => ?_)
        refine wpAnyH_take (i := 0) (oi := ?oi601) (v := ?vv601) ?hi601 ?hn601 ?hf601 ?hr601 ?hq601 (Or.inl ⟨?hg601, ?hy601⟩) hH0 ?rest601
        case hi601 => (simp only [List.getElem?_toArray, List.getElem?_cons_zero]; rfl)
        case hn601 => kernel_rfl
        case hf601 => kernel_rfl
        case hr601 => kernel_rfl
        case hg601 => rfl
        case hy601 => (intro w hSw; (try dsimp only at hSw); go_simp; first | done | with_reducible rfl)
        case hq601 => exact fun _ _ _ h => h
        try dsimp only [Act.put]
        refine wpAnyH_take (i := 1) (oi := ?oi602) (v := ?vv602) ?hi602 ?hn602 ?hf602 ?hr602 ?hq602 (Or.inl ⟨?hg602, ?hy602⟩) hH0 ?rest602
        case hi602 => (simp only [List.getElem?_toArray, List.getElem?_cons_succ, List.getElem?_cons_zero]; rfl)
        case hn602 => kernel_rfl
        case hf602 => kernel_rfl
        case hr602 => kernel_rfl
        case hg602 => rfl
        case hy602 => (intro w hSw; (try dsimp only at hSw); go_simp; first | done | with_reducible rfl)
        case hq602 => exact fun _ _ _ h => h
        try dsimp only [Act.put]
        refine wpAnyH_take (i := 2) (oi := ?oi603) (v := ?vv603) ?hi603 ?hn603 ?hf603 ?hr603 ?hq603 (Or.inl ⟨?hg603, ?hy603⟩) hH0 ?rest603
        case hi603 => (simp only [List.getElem?_toArray, List.getElem?_cons_succ, List.getElem?_cons_zero]; rfl)
        case hn603 => kernel_rfl
        case hf603 => kernel_rfl
        case hr603 => kernel_rfl
        case hg603 => rfl
        case hy603 => (intro w hSw; (try dsimp only at hSw); go_simp; first | done | with_reducible rfl)
        case hq603 => exact fun _ _ _ h => h
        try dsimp only [Act.put]
        refine wpAnyH_take (i := 3) (oi := ?oi604) (v := ?vv604) ?hi604 ?hn604 ?hf604 ?hr604 ?hq604 (Or.inl ⟨?hg604, ?hy604⟩) hH0 ?rest604
        case hi604 => (simp only [List.getElem?_toArray, List.getElem?_cons_succ, List.getElem?_cons_zero]; rfl)
        case hn604 => kernel_rfl
        case hf604 => kernel_rfl
        case hr604 => kernel_rfl
        case hg604 => rfl
        case hy604 => (intro w hSw; (try dsimp only at hSw); go_simp; first | done | with_reducible rfl)
        case hq604 => exact fun _ _ _ h => h
        try dsimp only [Act.put]
        refine wpAnyH_take (i := 4) (oi := ?oi605) (v := ?vv605) ?hi605 ?hn605 ?hf605 ?hr605 ?hq605 (Or.inl ⟨?hg605, ?hy605⟩) hH0 ?rest605
        case hi605 => (simp only [List.getElem?_toArray, List.getElem?_cons_succ, List.getElem?_cons_zero]; rfl)
        case hn605 => kernel_rfl
        case hf605 => kernel_rfl
        case hr605 => kernel_rfl
        case hg605 => rfl
        case hy605 => (intro w hSw; (try dsimp only at hSw); go_simp; first | done | with_reducible rfl)
        case hq605 => exact fun _ _ _ h => h
        try dsimp only [Act.put]
        have hd9 := (Below.refl wr.heap.size wr).drew
        refine held_one 5 rfl (by kernel_rfl) (fun K hK => ?_)
        go_simp
        refine (hLO1 _ (HCL.out.keep hd9) (HNS.out.keep hd9)).mono ?_; rintro e W5 ⟨v5, own5, hb5, rfl⟩
        obtain ⟨g5, cap5, rfl⟩ := own5.shape (by omega)
        go_wp2_with fail
        have hbz := nx hd9 hb5
        have hbwz := nx hbw hbz
        refine hK.out (fun (_ : World) => True) _ _ (fun _ h => h) trivial ?_
        clear hK K
        try dsimp only [Act.put]
        refine held_one 6 rfl (by kernel_rfl) (fun K hK => ?_)
        refine step_append_lies _ rfl _ _ 25 rfl w.heap.size 9 i0 (.string ⟨#[]⟩) 1 16 Try.underlying25 hi hz0 hz1 hz2 rfl (by decide) _ 0 [] rfl (ownsRow_keep hrow hbz) ⟨g5, 0, none⟩ X.length cap5 (X.map Value.string) rfl (by simp) (own5.news rfl) (oneS _) hX2 (by unfold maxLen; omega) (by omega) hbwz.size _ rfl ?_
        intro g9 cap9 w9 hown9 hgrow hnb9 hlt9
        have hbw9 := hbwz.grown hgrow hbwz.size (fun k hk => ownsRow_ge hrow k hk)
        refine hK.out (fun (_ : World) => True) _ _ (fun _ h => h) trivial ?_
        clear hK K
        try dsimp only [Act.put]
        have hHT : (fun (_ : World) => True) w9 := trivial
        refine wpAnyH_take (i := 7) (oi := ?oi801) (v := ?vv801) ?hi801 ?hn801 ?hf801 ?hr801 ?hq801 (Or.inl ⟨?hg801, ?hy801⟩) hHT ?rest801
        case hi801 => (simp only [List.getElem?_toArray, List.getElem?_cons_succ, List.getElem?_cons_zero]; rfl)
        case hn801 => kernel_rfl
        case hf801 => kernel_rfl
        case hr801 => kernel_rfl
        case hg801 => rfl
        case hy801 => (intro w hSw; (try dsimp only at hSw); go_simp; first | done | with_reducible rfl)
        case hq801 => exact fun _ _ _ h => h
        try dsimp only [Act.put]
        refine wpAnyH_done (by kernel_rfl) ?_ _
        simp only [List.setIfInBounds_toArray]
        have hfin : OwnS w.heap.size w9 (.slice (some ⟨g9, 0, none⟩) (0 + X.length) cap9) X := by
          have h9 := hown9
          unfold OwnS
          simpa using h9
        clear hown9 hgrow hrow own5
        go_wp2_with fail
        go_roundw
        case rel => exact ⟨1, by go_num, by omega, by rw [hsx.out]; simpa using hfin, fun h => by simp at h, hbw9⟩
        case measure => simp [intOf]; omega
      · have hpos := accK_pos (ps := ps) (fun p hp => (HL.out p hp).2) k (by omega) (by omega)
        have HSU := Lib.hid hsucc
        generalize accK ps k = acc at *
        obtain ⟨gv, cv, rfl⟩ := hown.shape (by omega)
        have hcv : acc.length ≤ cv ∧ cv ≤ maxLen := by
          rcases hown.cells with ⟨h9, _⟩ | ⟨g8, c8, h9, _, _, h10, h11, _⟩
          · cases h9
          · cases h9; exact ⟨h10, h11⟩
        obtain ⟨hcv1, hcv2⟩ := hcv
        unfold maxLen at hcv2
        have hrow0 := ownsRow_cut hown (acc.length - 1) (by omega)
        obtain ⟨m, hm⟩ : ∃ m, acc.length = m + 1 := ⟨acc.length - 1, by omega⟩
        rw [hm] at hrow0 hcv1 hal ⊢
        have hrow : wr.ownsRow w.heap.size 9 1 (.slice (some ⟨gv, 0, none⟩) m cv) m ((acc.map Value.string).take m) := hrow0
        have HM := Lib.hid hm
        have hm9 : m ≤ 1000 := by omega
        have hmcv : m ≤ cv := by omega
        have hnn : ¬ ((m : Int) < 0) := by omega
        clear hsucc hown hnil hcl0 hns hsl hp1 hp2 hrow0 hm hpos hal
        subst hu
        go_wp2_with fail
        refine wp_region_held_drew (S := (fun (_ : World) => True)) (by kernel_rfl) trivial (fun hH0 => ?_)
        refine wpAnyH_take (i := 0) (oi := ?oi201) (v := ?vv201) ?hi201 ?hn201 ?hf201 ?hr201 ?hq201 (Or.inl ⟨?hg201, ?hy201⟩) hH0 ?rest201
        case hi201 => (simp only [List.getElem?_toArray, List.getElem?_cons_zero]; rfl)
        case hn201 => kernel_rfl
        case hf201 => kernel_rfl
        case hr201 => kernel_rfl
        case hg201 => rfl
        case hy201 => (intro w hSw; (try dsimp only at hSw); go_simp; first | done | with_reducible rfl)
        case hq201 => exact fun _ _ _ h => h
        try dsimp only [Act.put]
        refine wpAnyH_take (i := 1) (oi := ?oi202) (v := ?vv202) ?hi202 ?hn202 ?hf202 ?hr202 ?hq202 (Or.inl ⟨?hg202, ?hy202⟩) hH0 ?rest202
        case hi202 => (simp only [List.getElem?_toArray, List.getElem?_cons_succ, List.getElem?_cons_zero]; rfl)
        case hn202 => kernel_rfl
        case hf202 => kernel_rfl
        case hr202 => kernel_rfl
        case hg202 => rfl
        case hy202 => (intro w hSw; (try dsimp only at hSw); go_simp; first | done | with_reducible rfl)
        case hq202 => exact fun _ _ _ h => h
        try dsimp only [Act.put]
        refine wpAnyH_take (i := 2) (oi := ?oi203) (v := ?vv203) ?hi203 ?hn203 ?hf203 ?hr203 ?hq203 (Or.inl ⟨?hg203, ?hy203⟩) hH0 ?rest203
        case hi203 => (simp only [List.getElem?_toArray, List.getElem?_cons_succ, List.getElem?_cons_zero]; rfl)
        case hn203 => kernel_rfl
        case hf203 => kernel_rfl
        case hr203 => kernel_rfl
        case hg203 => rfl
        case hy203 => (intro w hSw; (try dsimp only at hSw); go_simp; first | done | with_reducible rfl)
        case hq203 => exact fun _ _ _ h => h
        try dsimp only [Act.put]
        refine wpAnyH_take (i := 3) (oi := ?oi204) (v := ?vv204) ?hi204 ?hn204 ?hf204 ?hr204 ?hq204 (Or.inl ⟨?hg204, ?hy204⟩) hH0 ?rest204
        case hi204 => (simp only [List.getElem?_toArray, List.getElem?_cons_succ, List.getElem?_cons_zero]; rfl)
        case hn204 => kernel_rfl
        case hf204 => kernel_rfl
        case hr204 => kernel_rfl
        case hg204 => rfl
        case hy204 => (intro w hSw; (try dsimp only at hSw); go_simp; first | done | with_reducible rfl)
        case hq204 => exact fun _ _ _ h => h
        try dsimp only [Act.put]
        refine wpAnyH_take (i := 4) (oi := ?oi205) (v := ?vv205) ?hi205 ?hn205 ?hf205 ?hr205 ?hq205 (Or.inl ⟨?hg205, ?hy205⟩) hH0 ?rest205
        case hi205 => (simp only [List.getElem?_toArray, List.getElem?_cons_succ, List.getElem?_cons_zero]; rfl)
        case hn205 => kernel_rfl
        case hf205 => kernel_rfl
        case hr205 => kernel_rfl
        case hg205 => rfl
        case hy205 => (intro w hSw; (try dsimp only at hSw); go_simp; first | done | with_reducible rfl)
        case hq205 => exact fun _ _ _ h => h
        try dsimp only [Act.put]
        have hd9 := (Below.refl wr.heap.size wr).drew
        refine held_one 5 rfl (by kernel_rfl) (fun K hK => ?_)
        go_simp
        refine (hLO1 _ (HCL.out.keep hd9) (HNS.out.keep hd9)).mono ?_; rintro e W5 ⟨v5, own5, hb5, rfl⟩
        obtain ⟨g5, cap5, rfl⟩ := own5.shape (by omega)
        go_wp2_with fail
        have hbz := nx hd9 hb5
        have hbwz := nx hbw hbz
        refine hK.out (fun (_ : World) => True) _ _ (fun _ h => h) trivial ?_
        clear hK K
        try dsimp only [Act.put]
        refine held_one 6 rfl (by kernel_rfl) (fun K hK => ?_)
        refine step_append_lies _ rfl _ _ 25 rfl w.heap.size 9 i0 (.string ⟨#[]⟩) 1 16 Try.underlying25 hi hz0 hz1 hz2 rfl (by decide) _ m ((acc.map Value.string).take m) rfl (ownsRow_keep hrow hbz) ⟨g5, 0, none⟩ X.length cap5 (X.map Value.string) rfl (by simp) (own5.news rfl) (oneS _) hX2 (by unfold maxLen; omega) (by omega) hbwz.size _ rfl ?_
        intro g9 cap9 w9 hown9 hgrow hnb9 hlt9
        have hbw9 := hbwz.grown hgrow hbwz.size (fun k hk => ownsRow_ge hrow k hk)
        refine hK.out (fun (_ : World) => True) _ _ (fun _ h => h) trivial ?_
        clear hK K
        try dsimp only [Act.put]
        have hHT : (fun (_ : World) => True) w9 := trivial
        refine wpAnyH_take (i := 7) (oi := ?oi401) (v := ?vv401) ?hi401 ?hn401 ?hf401 ?hr401 ?hq401 (Or.inl ⟨?hg401, ?hy401⟩) hHT ?rest401
        case hi401 => (simp only [List.getElem?_toArray, List.getElem?_cons_succ, List.getElem?_cons_zero]; rfl)
        case hn401 => kernel_rfl
        case hf401 => kernel_rfl
        case hr401 => kernel_rfl
        case hg401 => rfl
        case hy401 => (intro w hSw; (try dsimp only at hSw); go_simp; first | done | with_reducible rfl)
        case hq401 => exact fun _ _ _ h => h
        try dsimp only [Act.put]
        refine wpAnyH_done (by kernel_rfl) ?_ _
        simp only [List.setIfInBounds_toArray]
        have hfin : OwnS w.heap.size w9 (.slice (some ⟨g9, 0, none⟩) (m + X.length) cap9) (accK ps (k + 1)) := by
          have h9 := hown9
          have e9 : accK ps (k + 1) = acc.take m ++ X := by rw [HSU.out, HM.out]; rfl
          unfold OwnS
          rw [e9, List.length_append, List.length_take, HM.out, Nat.min_eq_left (Nat.le_succ m), List.map_append, List.map_take]
          exact h9
        clear hown9 hgrow hrow own5
        go_wp2_with fail
        go_roundw
        case rel => exact ⟨k + 1, by go_num, by omega, hfin, fun h => by simp at h, hbw9⟩
        case measure => simp [intOf]; omega
    · obtain rfl : k = n := by omega
      go_wp2_with fail
      go_ret
      exact ⟨_, hown, hbw, rfl⟩
end Go.Proofs.Ytkoebmdocenlkaa
