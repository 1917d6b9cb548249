/- Walks: (*node).placesFrom. -/
import Derived.Test.YtkoebmdocenlkaaPl1
import Derived.Test.YtkoebmdocenlkaaPairK
namespace Go.Proofs.Ytkoebmdocenlkaa
open Go.RowKit

set_option maxRecDepth 100000 in
set_option maxHeartbeats 4000000 in
theorem placesFrom_any (k : Bool) (t : Tr) : ∀ (b : Nat) (here : ByteArray) (w : World), NodeAt w t b → t.carets ≤ 60 → here.size + t.carets ≤ 1000 →
    Calls Try.prog 55 #[.pointer (some ⟨b, 0, none⟩), .string here, .func (Fn.func (turnF k)) #[] #[]] w (GivesOwn (t.spots k here) w) := by
  obtain ⟨i0, hi, hz0, hz1, hz2⟩ := info_parts info_str
  have hcall := turn_call k
  induction t with
  | lf =>
    intro b here w hn ht hh
    have H := Lib.hid hn
    clear hn
    generalize turnF k = fk at *
    go_enter Try.func55, Try.ntmps55
    go_wp2_with fail
    refine (isLeaf_any .lf b _ H.out).mono ?_; rintro e w1 ⟨rfl, rfl⟩
    simp only [Tr.isLf]
    go_wp2_with fail
    go_ret
    exact ⟨_, OwnS.nil _ _, Below.refl _ _, rfl⟩
  | nd l r ihl ihr =>
    intro b here w hn ht hh
    have ht' : l.carets + r.carets + 1 ≤ 60 := ht
    have hh' : here.size + (l.carets + r.carets + 1) ≤ 1000 := hh
    have ll := spots_len (k := k) l (here ++ ⟨#[48]⟩)
    have lr := spots_len (k := k) r (here ++ ⟨#[49]⟩)
    have hC : (Tr.nd l r).spots k here = (Tr.nd l r).here1 k here ++ (l.spots k (here ++ ⟨#[48]⟩) ++ r.spots k (here ++ ⟨#[49]⟩)) := rfl
    have s0 : (here ++ (⟨#[48]⟩ : ByteArray)).size = here.size + 1 := ByteArray.size_append
    have s1 : (here ++ (⟨#[49]⟩ : ByteArray)).size = here.size + 1 := ByteArray.size_append
    have hR := turn_any k (.nd l r) b w hn
    have H := Lib.hid hn
    have HLT := hn.lt
    obtain ⟨bl, br, h, hl, hr⟩ := hn
    have h1 := two_left h
    have h2 := two_right h
    have HL := Lib.hid hl
    have HR := Lib.hid hr
    have jl := fun w hx => ihl bl (here ++ ⟨#[48]⟩) w hx (by omega) (by omega)
    have jr := fun w hx => ihr br (here ++ ⟨#[49]⟩) w hx (by omega) (by omega)
    rw [hC]
    generalize l.spots k (here ++ ⟨#[48]⟩) = L1 at *
    generalize r.spots k (here ++ ⟨#[49]⟩) = L2 at *
    have hz9 : here.size ≤ 1000 := by omega
    have hz3 : (9223372036854775807 < here.size + 1) = False := eq_false (by omega)
    have h1n : L1.length ≤ 60 := by omega
    have h2n : L2.length ≤ 60 := by omega
    have hb0 := Below.refl w.heap.size w
    clear ihl ihr s0 s1 ll lr hC h hl hr
    cases hg : ((Tr.nd l r).rot k) with
    | none =>
      rw [here1_no (by rw [hg]; rfl), List.nil_append]
      rw [hg] at hR
      have hR' : Calls Try.prog (turnF k) #[.pointer (some ⟨b, 0, none⟩)] w (fun e w' => Below w.heap.size w w' ∧ e = .returned (.pointer none)) := hR
      clear hR hg
      generalize turnF k = fk at *
      go_enter Try.func55, Try.ntmps55
      go_wp2_with fail
      refine (isLeaf_any (.nd l r) b _ H.out).mono ?_; rintro e w1 ⟨rfl, rfl⟩
      simp only [Tr.isLf]
      go_wp2_with fail
      refine hR'.mono ?_; rintro e w2 ⟨hb2x, rfl⟩
      clear hR'
      have SR0 : Hid (SrcT w2 (Value.slice none 0 0) []) := ⟨.inl ⟨rfl, rfl⟩, none, 0, rfl⟩
      go_wp2_with fail
      have cc := keep_two hb2x HLT ⟨h1, h2⟩
      have hbd := hb2x.drew
      refine wp_region_held_drew (S := (fun (w' : World) => (w'.cell? ⟨b, 0, none⟩ = some (.pointer (some ⟨bl, 0, none⟩)) ∧ w'.cell? ⟨b, 1, none⟩ = some (.pointer (some ⟨br, 0, none⟩))) ∧ Below w.heap.size w w')) (by kernel_rfl) ⟨cc, hb2x.drew⟩ (fun hH0 => ?_)
      refine wpAnyH_take (i := 0) (oi := ?oi201) (v := ?vv201) ?hi201 ?hn201 ?hf201 ?hr201 ?hq201 (Or.inl ⟨?hg201, ?hy201⟩) hH0 ?rest201
      case hi201 => (simp only [List.getElem?_toArray, List.getElem?_cons_zero]; rfl)
      case hn201 => kernel_rfl
      case hf201 => kernel_rfl
      case hr201 => kernel_rfl
      case hg201 => rfl
      case hy201 => (intro w hSw; (try dsimp only at hSw); go_simp; first | done | with_reducible rfl)
      case hq201 => exact fun _ _ _ h => h
      try dsimp only [Act.put]
      refine wpAnyH_take (i := 1) (oi := ?oi202) (v := ?vv202) ?hi202 ?hn202 ?hf202 ?hr202 ?hq202 (Or.inl ⟨?hg202, ?hy202⟩) hH0 ?rest202
      case hi202 => (simp only [List.getElem?_toArray, List.getElem?_cons_succ, List.getElem?_cons_zero]; rfl)
      case hn202 => kernel_rfl
      case hf202 => kernel_rfl
      case hr202 => kernel_rfl
      case hg202 => rfl
      case hy202 => (intro w hSw; (try dsimp only at hSw); go_simp; first | done | with_reducible rfl)
      case hq202 => exact fun _ _ _ h => h
      try dsimp only [Act.put]
      refine wpAnyH_take (i := 2) (oi := ?oi203) (v := ?vv203) ?hi203 ?hn203 ?hf203 ?hr203 ?hq203 (Or.inl ⟨?hg203, ?hy203⟩) hH0 ?rest203
      case hi203 => (simp only [List.getElem?_toArray, List.getElem?_cons_succ, List.getElem?_cons_zero]; rfl)
      case hn203 => kernel_rfl
      case hf203 => kernel_rfl
      case hr203 => kernel_rfl
      case hg203 => rfl
      case hy203 => (intro w hSw; (try dsimp only at hSw); go_simp; first | done | with_reducible rfl)
      case hq203 => exact fun _ _ _ h => h
      try dsimp only [Act.put]
      refine wpAnyH_take (i := 3) (oi := ?oi204) (v := ?vv204) ?hi204 ?hn204 ?hf204 ?hr204 ?hq204 (Or.inl ⟨?hg204, ?hy204⟩) hH0 ?rest204
      case hi204 => (simp only [List.getElem?_toArray, List.getElem?_cons_succ, List.getElem?_cons_zero]; rfl)
      case hn204 => kernel_rfl
      case hf204 => kernel_rfl
      case hr204 => kernel_rfl
      case hg204 => rfl
      case hy204 => (intro w hSw; (try dsimp only at hSw); go_simp; first | done | with_reducible rfl)
      case hq204 => exact fun _ _ _ h => h
      try dsimp only [Act.put]
      refine wpAnyH_take (i := 4) (oi := ?oi205) (v := ?vv205) ?hi205 ?hn205 ?hf205 ?hr205 ?hq205 (Or.inl ⟨?hg205, ?hy205⟩) hH0 ?rest205
      case hi205 => (simp only [List.getElem?_toArray, List.getElem?_cons_succ, List.getElem?_cons_zero]; rfl)
      case hn205 => kernel_rfl
      case hf205 => kernel_rfl
      case hr205 => kernel_rfl
      case hg205 => rfl
      case hy205 => (intro w hSw; (try dsimp only at hSw); go_simp; first | done | with_reducible rfl)
      case hq205 => exact fun _ _ _ h => h
      try dsimp only [Act.put]
      refine wpAnyH_take (i := 5) (oi := ?oi206) (v := ?vv206) ?hi206 ?hn206 ?hf206 ?hr206 ?hq206 (Or.inl ⟨?hg206, ?hy206⟩) hH0 ?rest206
      case hi206 => (simp only [List.getElem?_toArray, List.getElem?_cons_succ, List.getElem?_cons_zero]; rfl)
      case hn206 => kernel_rfl
      case hf206 => kernel_rfl
      case hr206 => kernel_rfl
      case hg206 => rfl
      case hy206 => (intro w hSw; (try dsimp only at hSw); go_simp; first | done | with_reducible rfl)
      case hq206 => exact fun _ _ _ h => h
      try dsimp only [Act.put]
      refine wpAnyH_take (i := 6) (oi := ?oi207) (v := ?vv207) ?hi207 ?hn207 ?hf207 ?hr207 ?hq207 (Or.inl ⟨?hg207, ?hy207⟩) hH0 ?rest207
      case hi207 => (simp only [List.getElem?_toArray, List.getElem?_cons_succ, List.getElem?_cons_zero]; rfl)
      case hn207 => kernel_rfl
      case hf207 => kernel_rfl
      case hr207 => kernel_rfl
      case hg207 => rfl
      case hy207 => (intro w hSw; (try dsimp only at hSw); go_simp; first | done | with_reducible rfl)
      case hq207 => exact fun _ _ _ h => h
      try dsimp only [Act.put]
      refine wpAnyH_take (i := 7) (oi := ?oi208) (v := ?vv208) ?hi208 ?hn208 ?hf208 ?hr208 ?hq208 (Or.inl ⟨?hg208, ?hy208⟩) hH0 ?rest208
      case hi208 => (simp only [List.getElem?_toArray, List.getElem?_cons_succ, List.getElem?_cons_zero]; rfl)
      case hn208 => kernel_rfl
      case hf208 => kernel_rfl
      case hr208 => kernel_rfl
      case hg208 => rfl
      case hy208 => (intro w hSw; (try dsimp only at hSw); go_simp; first | done | with_reducible rfl)
      case hq208 => exact fun _ _ _ h => h
      try dsimp only [Act.put]
      refine wpAnyH_take (i := 9) (oi := ?oi209) (v := ?vv209) ?hi209 ?hn209 ?hf209 ?hr209 ?hq209 (Or.inl ⟨?hg209, ?hy209⟩) hH0 ?rest209
      case hi209 => (simp only [List.getElem?_toArray, List.getElem?_cons_succ, List.getElem?_cons_zero]; rfl)
      case hn209 => kernel_rfl
      case hf209 => kernel_rfl
      case hr209 => kernel_rfl
      case hg209 => rfl
      case hy209 => (intro w hSw; (try dsimp only at hSw); go_simp; first | done | with_reducible rfl)
      case hq209 => exact fun _ _ _ h => h
      try dsimp only [Act.put]
      refine wpAnyH_take (i := 10) (oi := ?oi210) (v := ?vv210) ?hi210 ?hn210 ?hf210 ?hr210 ?hq210 (Or.inl ⟨?hg210, ?hy210⟩) hH0 ?rest210
      case hi210 => (simp only [List.getElem?_toArray, List.getElem?_cons_succ, List.getElem?_cons_zero]; rfl)
      case hn210 => kernel_rfl
      case hf210 => kernel_rfl
      case hr210 => kernel_rfl
      case hg210 => rfl
      case hy210 => (intro w hSw; (try dsimp only at hSw); go_simp; first | done | with_reducible rfl)
      case hq210 => exact fun _ _ _ h => h
      try dsimp only [Act.put]
      refine wpAnyH_take (i := 11) (oi := ?oi211) (v := ?vv211) ?hi211 ?hn211 ?hf211 ?hr211 ?hq211 (Or.inl ⟨?hg211, ?hy211⟩) hH0 ?rest211
      case hi211 => (simp only [List.getElem?_toArray, List.getElem?_cons_succ, List.getElem?_cons_zero]; rfl)
      case hn211 => kernel_rfl
      case hf211 => kernel_rfl
      case hr211 => kernel_rfl
      case hg211 => rfl
      case hy211 => (intro w hSw; (try dsimp only at hSw); go_simp; first | done | with_reducible rfl)
      case hq211 => exact fun _ _ _ h => h
      try dsimp only [Act.put]
      refine wpAnyH_take (i := 12) (oi := ?oi212) (v := ?vv212) ?hi212 ?hn212 ?hf212 ?hr212 ?hq212 (Or.inl ⟨?hg212, ?hy212⟩) hH0 ?rest212
      case hi212 => (simp only [List.getElem?_toArray, List.getElem?_cons_succ, List.getElem?_cons_zero]; rfl)
      case hn212 => kernel_rfl
      case hf212 => kernel_rfl
      case hr212 => kernel_rfl
      case hg212 => rfl
      case hy212 => (intro w hSw; (try dsimp only at hSw); go_simp; first | done | with_reducible rfl)
      case hq212 => exact fun _ _ _ h => h
      try dsimp only [Act.put]
      refine wpAnyH_take (i := 13) (oi := ?oi213) (v := ?vv213) ?hi213 ?hn213 ?hf213 ?hr213 ?hq213 (Or.inl ⟨?hg213, ?hy213⟩) hH0 ?rest213
      case hi213 => (simp only [List.getElem?_toArray, List.getElem?_cons_succ, List.getElem?_cons_zero]; rfl)
      case hn213 => kernel_rfl
      case hf213 => kernel_rfl
      case hr213 => kernel_rfl
      case hg213 => rfl
      case hy213 => (intro w hSw; (try dsimp only at hSw); go_simp; first | done | with_reducible rfl)
      case hq213 => exact fun _ _ _ h => h
      try dsimp only [Act.put]
      refine wpAnyH_take (i := 14) (oi := ?oi214) (v := ?vv214) ?hi214 ?hn214 ?hf214 ?hr214 ?hq214 (Or.inl ⟨?hg214, ?hy214⟩) hH0 ?rest214
      case hi214 => (simp only [List.getElem?_toArray, List.getElem?_cons_succ, List.getElem?_cons_zero]; rfl)
      case hn214 => kernel_rfl
      case hf214 => kernel_rfl
      case hr214 => kernel_rfl
      case hg214 => rfl
      case hy214 => (intro w hSw; (try dsimp only at hSw); go_simp; first | done | with_reducible rfl)
      case hq214 => exact fun _ _ _ h => h
      try dsimp only [Act.put]
      refine wpAnyH_take (i := 15) (oi := ?oi215) (v := ?vv215) ?hi215 ?hn215 ?hf215 ?hr215 ?hq215 (Or.inl ⟨?hg215, ?hy215⟩) hH0 ?rest215
      case hi215 => (simp only [List.getElem?_toArray, List.getElem?_cons_succ, List.getElem?_cons_zero]; rfl)
      case hn215 => kernel_rfl
      case hf215 => kernel_rfl
      case hr215 => kernel_rfl
      case hg215 => rfl
      case hy215 => (intro w hSw; (try dsimp only at hSw); go_simp; first | done | with_reducible rfl)
      case hq215 => exact fun _ _ _ h => h
      try dsimp only [Act.put]
      refine held_one 8 rfl (by kernel_rfl) (fun K hK => ?_)
      go_simp
      refine (jl _ (HL.out.keep hbd)).mono ?_; rintro e W1 ⟨v1, own1, hb1, rfl⟩
      obtain ⟨oa1, c1, rfl, src1⟩ := own1.srcT
      have SR1 := Lib.hid src1
      generalize hn1 : L1.length = n1 at *
      have HN1 := Lib.hid hn1
      clear hn1 src1 own1
      go_wp2_with fail
      have hH1 : (fun (w' : World) => ((w'.cell? ⟨b, 0, none⟩ = some (.pointer (some ⟨bl, 0, none⟩)) ∧ w'.cell? ⟨b, 1, none⟩ = some (.pointer (some ⟨br, 0, none⟩))) ∧ Below w.heap.size w w') ∧ Below W1.heap.size W1 w') W1 := ⟨⟨keep_two (nx hbd hb1) HLT ⟨h1, h2⟩, nx hbd hb1⟩, Below.refl _ _⟩
      refine hK.out (fun (w' : World) => ((w'.cell? ⟨b, 0, none⟩ = some (.pointer (some ⟨bl, 0, none⟩)) ∧ w'.cell? ⟨b, 1, none⟩ = some (.pointer (some ⟨br, 0, none⟩))) ∧ Below w.heap.size w w') ∧ Below W1.heap.size W1 w') _ _ (fun _ h => h.1) hH1 ?_
      clear hK K
      try dsimp only [Act.put]
      refine held_one 16 rfl (by kernel_rfl) (fun K hK => ?_)
      go_simp
      refine (jr _ (HR.out.keep hH1.1.2)).mono ?_; rintro e W2 ⟨v2, own2, hb2, rfl⟩
      obtain ⟨oa2, c2, rfl, src2⟩ := own2.srcT
      have SR2 := Lib.hid src2
      generalize hn2 : L2.length = n2 at *
      have HN2 := Lib.hid hn2
      clear hn2 src2 own2
      go_wp2_with fail
      have hH2 : (fun (w' : World) => (((w'.cell? ⟨b, 0, none⟩ = some (.pointer (some ⟨bl, 0, none⟩)) ∧ w'.cell? ⟨b, 1, none⟩ = some (.pointer (some ⟨br, 0, none⟩))) ∧ Below w.heap.size w w') ∧ Below W1.heap.size W1 w') ∧ Below W2.heap.size W2 w') W2 := ⟨⟨⟨keep_two (nx hH1.1.2 hb2) HLT ⟨h1, h2⟩, nx hH1.1.2 hb2⟩, hb2⟩, Below.refl _ _⟩
      refine hK.out (fun (w' : World) => (((w'.cell? ⟨b, 0, none⟩ = some (.pointer (some ⟨bl, 0, none⟩)) ∧ w'.cell? ⟨b, 1, none⟩ = some (.pointer (some ⟨br, 0, none⟩))) ∧ Below w.heap.size w w') ∧ Below W1.heap.size W1 w') ∧ Below W2.heap.size W2 w') _ _ (fun _ h => h.1) hH2 ?_
      clear hK K
      try dsimp only [Act.put]
      refine held_one 17 rfl (by kernel_rfl) (fun K hK => ?_)
      go_simp
      refine (fun (H : ∀ W : World, (fun (w' : World) => ((((w'.cell? ⟨b, 0, none⟩ = some (.pointer (some ⟨bl, 0, none⟩)) ∧ w'.cell? ⟨b, 1, none⟩ = some (.pointer (some ⟨br, 0, none⟩))) ∧ Below w.heap.size w w') ∧ Below W1.heap.size W1 w') ∧ Below W2.heap.size W2 w') ∧ (w'.cell? ⟨W2.heap.size, 0, none⟩ = some (.slice none 0 0) ∧ w'.cell? ⟨W2.heap.size, 1, none⟩ = some (.slice oa1 n1 c1) ∧ w'.cell? ⟨W2.heap.size, 2, none⟩ = some (.slice oa2 n2 c2))) W → K _ W) => H _ ?hH901) (fun W901 hW901 => ?main901)
      case hH901 => exact ⟨⟨⟨⟨keep_two (nxAlloc hH2.1.1.2 (.cells #[.slice none 0 0, .slice oa1 n1 c1, .slice oa2 n2 c2] 25 (0, 0))) HLT ⟨h1, h2⟩, nxAlloc hH2.1.1.2 (.cells #[.slice none 0 0, .slice oa1 n1 c1, .slice oa2 n2 c2] 25 (0, 0))⟩, nxAlloc hH2.1.2 (.cells #[.slice none 0 0, .slice oa1 n1 c1, .slice oa2 n2 c2] 25 (0, 0))⟩, nxAlloc (Below.refl _ _) (.cells #[.slice none 0 0, .slice oa1 n1 c1, .slice oa2 n2 c2] 25 (0, 0))⟩, cell_newB _ _ _ 0 rfl, cell_newB _ _ _ 1 rfl, cell_newB _ _ _ 2 rfl⟩
      case main901 =>
      refine hK.out (fun (w' : World) => ((((w'.cell? ⟨b, 0, none⟩ = some (.pointer (some ⟨bl, 0, none⟩)) ∧ w'.cell? ⟨b, 1, none⟩ = some (.pointer (some ⟨br, 0, none⟩))) ∧ Below w.heap.size w w') ∧ Below W1.heap.size W1 w') ∧ Below W2.heap.size W2 w') ∧ (w'.cell? ⟨W2.heap.size, 0, none⟩ = some (.slice none 0 0) ∧ w'.cell? ⟨W2.heap.size, 1, none⟩ = some (.slice oa1 n1 c1) ∧ w'.cell? ⟨W2.heap.size, 2, none⟩ = some (.slice oa2 n2 c2))) _ _ (fun _ h => h.1) hW901 ?_
      clear hK K
      try dsimp only [Act.put]
      have hPt : PartsS W901 W2.heap.size [.slice none 0 0, .slice oa1 n1 c1, .slice oa2 n2 c2] [([] : List ByteArray), L1, L2] := by
        refine ⟨World.block_lt_of_cell? W901 _ hW901.2.1, rfl, fun i hi => ?_⟩
        match i, hi with
        | 0, _ => exact ⟨hW901.2.1, SR0.out.keep (nx (nx (nx (Below.refl _ _).drew hb1) hb2) hW901.1.2)⟩
        | 1, _ => exact ⟨hW901.2.2.1, SR1.out.keep hW901.1.1.2⟩
        | 2, _ => exact ⟨hW901.2.2.2, SR2.out.keep hW901.1.2⟩
      refine held_one 18 rfl (by kernel_rfl) (fun K hK => ?_)
      go_simp
      refine (concatS_any W2.heap.size 3 _ _ W901 hPt rfl (by omega) (by
        have e1 := HN1.out
        have e2 := HN2.out
        simp; omega)).mono ?_; rintro e W5 ⟨v5, own5, hb5, rfl⟩
      go_wp2_with fail
      have hH5 : (fun (w' : World) => ((((w'.cell? ⟨b, 0, none⟩ = some (.pointer (some ⟨bl, 0, none⟩)) ∧ w'.cell? ⟨b, 1, none⟩ = some (.pointer (some ⟨br, 0, none⟩))) ∧ Below w.heap.size w w') ∧ Below W1.heap.size W1 w') ∧ Below W2.heap.size W2 w') ∧ (w'.cell? ⟨W2.heap.size, 0, none⟩ = some (.slice none 0 0) ∧ w'.cell? ⟨W2.heap.size, 1, none⟩ = some (.slice oa1 n1 c1) ∧ w'.cell? ⟨W2.heap.size, 2, none⟩ = some (.slice oa2 n2 c2))) W5 := ⟨⟨⟨⟨keep_two (nx hW901.1.1.1.2 hb5) HLT ⟨h1, h2⟩, nx hW901.1.1.1.2 hb5⟩, nx hW901.1.1.2 hb5⟩, nx hW901.1.2 hb5⟩, keep_cell hb5 hW901.2.1, keep_cell hb5 hW901.2.2.1, keep_cell hb5 hW901.2.2.2⟩
      refine hK.out (fun (w' : World) => ((((w'.cell? ⟨b, 0, none⟩ = some (.pointer (some ⟨bl, 0, none⟩)) ∧ w'.cell? ⟨b, 1, none⟩ = some (.pointer (some ⟨br, 0, none⟩))) ∧ Below w.heap.size w w') ∧ Below W1.heap.size W1 w') ∧ Below W2.heap.size W2 w') ∧ (w'.cell? ⟨W2.heap.size, 0, none⟩ = some (.slice none 0 0) ∧ w'.cell? ⟨W2.heap.size, 1, none⟩ = some (.slice oa1 n1 c1) ∧ w'.cell? ⟨W2.heap.size, 2, none⟩ = some (.slice oa2 n2 c2))) _ _ (fun _ h => h) hH5 ?_
      clear hK K
      try dsimp only [Act.put]
      refine wpAnyH_take (i := 19) (oi := ?oi401) (v := ?vv401) ?hi401 ?hn401 ?hf401 ?hr401 ?hq401 (Or.inl ⟨?hg401, ?hy401⟩) hH5 ?rest401
      case hi401 => (simp only [List.getElem?_toArray, List.getElem?_cons_succ, List.getElem?_cons_zero]; rfl)
      case hn401 => kernel_rfl
      case hf401 => kernel_rfl
      case hr401 => kernel_rfl
      case hg401 => rfl
      case hy401 => (intro w hSw; (try dsimp only at hSw); go_simp; first | done | with_reducible rfl)
      case hq401 => exact fun _ _ _ h => h
      try dsimp only [Act.put]
      refine wpAnyH_done (by kernel_rfl) ?_ _
      simp only [List.setIfInBounds_toArray, List.set_cons_zero, List.set_cons_succ]
      go_wp2_with fail
      go_ret
      exact ⟨v5, by
        have h9 := own5
        simp only [List.flatten_cons, List.flatten_nil, List.append_nil] at h9
        exact (by simpa using h9 : OwnS W901.heap.size W5 v5 (L1 ++ L2)).mono (hW901.1.1.1.2.size), hH5.1.1.1.2, rfl⟩
    | some u =>
      rw [here1_yes (by rw [hg]; rfl)]
      rw [hg] at hR
      have hR' : Calls Try.prog (turnF k) #[.pointer (some ⟨b, 0, none⟩)] w (fun e w' => ∃ bx, Below w.heap.size w w' ∧ e = .returned (.pointer (some ⟨bx, 0, none⟩))) := hR.mono fun e w' ⟨bx, _, h2, h3⟩ => ⟨bx, h2, h3⟩
      clear hR hg
      generalize turnF k = fk at *
      go_enter Try.func55, Try.ntmps55
      go_wp2_with fail
      refine (isLeaf_any (.nd l r) b _ H.out).mono ?_; rintro e w1 ⟨rfl, rfl⟩
      simp only [Tr.isLf]
      go_wp2_with fail
      refine hR'.mono ?_; rintro e w2 ⟨bx, hb2x, rfl⟩
      clear hR'
      have hown : w2.ownsRow w.heap.size 9 1 (.slice none 0 0) 0 [] := World.ownsRow_nil _ _ _ _
      go_wp2_with (at_builtin; refine wpList_append_own _ rfl _ _ 25 rfl w.heap.size 9 i0 (.string ⟨#[]⟩) 1 16 Try.underlying25 hi hz0 hz1 hz2 rfl (by decide) _ _ _ rfl (hown.alloc _) ⟨w2.heap.size, 0, none⟩ 1 1 [.string here] rfl rfl (new1 _ _ _) (oneS [here]) (by unfold maxLen; omega) (by omega) (size_al hb2x _) ?_; intro v' w9 hown' hgrow hnn)
      have hbw9 := below_app hb2x hown (Nat.le_refl _) hgrow
      have own9 : OwnS w.heap.size w9 v' ([] ++ [here]) := OwnS.app (A := []) (B := [here]) hown'
      rw [List.nil_append] at own9
      obtain ⟨oa0, c0, hv0, src0⟩ := own9.srcT
      have hv0' : v' = .slice oa0 1 c0 := hv0
      subst hv0'
      have SR0 := Lib.hid src0
      clear hown hown' hgrow hnn hb2x own9 src0 hv0
      go_wp2_with fail
      have cc := keep_two hbw9 HLT ⟨h1, h2⟩
      have hbd := hbw9.drew
      refine wp_region_held_drew (S := (fun (w' : World) => (w'.cell? ⟨b, 0, none⟩ = some (.pointer (some ⟨bl, 0, none⟩)) ∧ w'.cell? ⟨b, 1, none⟩ = some (.pointer (some ⟨br, 0, none⟩))) ∧ Below w.heap.size w w')) (by kernel_rfl) ⟨cc, hbw9.drew⟩ (fun hH0 => ?_)
      refine wpAnyH_take (i := 0) (oi := ?oi601) (v := ?vv601) ?hi601 ?hn601 ?hf601 ?hr601 ?hq601 (Or.inl ⟨?hg601, ?hy601⟩) hH0 ?rest601
      case hi601 => (simp only [List.getElem?_toArray, List.getElem?_cons_zero]; rfl)
      case hn601 => kernel_rfl
      case hf601 => kernel_rfl
      case hr601 => kernel_rfl
      case hg601 => rfl
      case hy601 => (intro w hSw; (try dsimp only at hSw); go_simp; first | done | with_reducible rfl)
      case hq601 => exact fun _ _ _ h => h
      try dsimp only [Act.put]
      refine wpAnyH_take (i := 1) (oi := ?oi602) (v := ?vv602) ?hi602 ?hn602 ?hf602 ?hr602 ?hq602 (Or.inl ⟨?hg602, ?hy602⟩) hH0 ?rest602
      case hi602 => (simp only [List.getElem?_toArray, List.getElem?_cons_succ, List.getElem?_cons_zero]; rfl)
      case hn602 => kernel_rfl
      case hf602 => kernel_rfl
      case hr602 => kernel_rfl
      case hg602 => rfl
      case hy602 => (intro w hSw; (try dsimp only at hSw); go_simp; first | done | with_reducible rfl)
      case hq602 => exact fun _ _ _ h => h
      try dsimp only [Act.put]
      refine wpAnyH_take (i := 2) (oi := ?oi603) (v := ?vv603) ?hi603 ?hn603 ?hf603 ?hr603 ?hq603 (Or.inl ⟨?hg603, ?hy603⟩) hH0 ?rest603
      case hi603 => (simp only [List.getElem?_toArray, List.getElem?_cons_succ, List.getElem?_cons_zero]; rfl)
      case hn603 => kernel_rfl
      case hf603 => kernel_rfl
      case hr603 => kernel_rfl
      case hg603 => rfl
      case hy603 => (intro w hSw; (try dsimp only at hSw); go_simp; first | done | with_reducible rfl)
      case hq603 => exact fun _ _ _ h => h
      try dsimp only [Act.put]
      refine wpAnyH_take (i := 3) (oi := ?oi604) (v := ?vv604) ?hi604 ?hn604 ?hf604 ?hr604 ?hq604 (Or.inl ⟨?hg604, ?hy604⟩) hH0 ?rest604
      case hi604 => (simp only [List.getElem?_toArray, List.getElem?_cons_succ, List.getElem?_cons_zero]; rfl)
      case hn604 => kernel_rfl
      case hf604 => kernel_rfl
      case hr604 => kernel_rfl
      case hg604 => rfl
      case hy604 => (intro w hSw; (try dsimp only at hSw); go_simp; first | done | with_reducible rfl)
      case hq604 => exact fun _ _ _ h => h
      try dsimp only [Act.put]
      refine wpAnyH_take (i := 4) (oi := ?oi605) (v := ?vv605) ?hi605 ?hn605 ?hf605 ?hr605 ?hq605 (Or.inl ⟨?hg605, ?hy605⟩) hH0 ?rest605
      case hi605 => (simp only [List.getElem?_toArray, List.getElem?_cons_succ, List.getElem?_cons_zero]; rfl)
      case hn605 => kernel_rfl
      case hf605 => kernel_rfl
      case hr605 => kernel_rfl
      case hg605 => rfl
      case hy605 => (intro w hSw; (try dsimp only at hSw); go_simp; first | done | with_reducible rfl)
      case hq605 => exact fun _ _ _ h => h
      try dsimp only [Act.put]
      refine wpAnyH_take (i := 5) (oi := ?oi606) (v := ?vv606) ?hi606 ?hn606 ?hf606 ?hr606 ?hq606 (Or.inl ⟨?hg606, ?hy606⟩) hH0 ?rest606
      case hi606 => (simp only [List.getElem?_toArray, List.getElem?_cons_succ, List.getElem?_cons_zero]; rfl)
      case hn606 => kernel_rfl
      case hf606 => kernel_rfl
      case hr606 => kernel_rfl
      case hg606 => rfl
      case hy606 => (intro w hSw; (try dsimp only at hSw); go_simp; first | done | with_reducible rfl)
      case hq606 => exact fun _ _ _ h => h
      try dsimp only [Act.put]
      refine wpAnyH_take (i := 6) (oi := ?oi607) (v := ?vv607) ?hi607 ?hn607 ?hf607 ?hr607 ?hq607 (Or.inl ⟨?hg607, ?hy607⟩) hH0 ?rest607
      case hi607 => (simp only [List.getElem?_toArray, List.getElem?_cons_succ, List.getElem?_cons_zero]; rfl)
      case hn607 => kernel_rfl
      case hf607 => kernel_rfl
      case hr607 => kernel_rfl
      case hg607 => rfl
      case hy607 => (intro w hSw; (try dsimp only at hSw); go_simp; first | done | with_reducible rfl)
      case hq607 => exact fun _ _ _ h => h
      try dsimp only [Act.put]
      refine wpAnyH_take (i := 7) (oi := ?oi608) (v := ?vv608) ?hi608 ?hn608 ?hf608 ?hr608 ?hq608 (Or.inl ⟨?hg608, ?hy608⟩) hH0 ?rest608
      case hi608 => (simp only [List.getElem?_toArray, List.getElem?_cons_succ, List.getElem?_cons_zero]; rfl)
      case hn608 => kernel_rfl
      case hf608 => kernel_rfl
      case hr608 => kernel_rfl
      case hg608 => rfl
      case hy608 => (intro w hSw; (try dsimp only at hSw); go_simp; first | done | with_reducible rfl)
      case hq608 => exact fun _ _ _ h => h
      try dsimp only [Act.put]
      refine wpAnyH_take (i := 9) (oi := ?oi609) (v := ?vv609) ?hi609 ?hn609 ?hf609 ?hr609 ?hq609 (Or.inl ⟨?hg609, ?hy609⟩) hH0 ?rest609
      case hi609 => (simp only [List.getElem?_toArray, List.getElem?_cons_succ, List.getElem?_cons_zero]; rfl)
      case hn609 => kernel_rfl
      case hf609 => kernel_rfl
      case hr609 => kernel_rfl
      case hg609 => rfl
      case hy609 => (intro w hSw; (try dsimp only at hSw); go_simp; first | done | with_reducible rfl)
      case hq609 => exact fun _ _ _ h => h
      try dsimp only [Act.put]
      refine wpAnyH_take (i := 10) (oi := ?oi610) (v := ?vv610) ?hi610 ?hn610 ?hf610 ?hr610 ?hq610 (Or.inl ⟨?hg610, ?hy610⟩) hH0 ?rest610
      case hi610 => (simp only [List.getElem?_toArray, List.getElem?_cons_succ, List.getElem?_cons_zero]; rfl)
      case hn610 => kernel_rfl
      case hf610 => kernel_rfl
      case hr610 => kernel_rfl
      case hg610 => rfl
      case hy610 => (intro w hSw; (try dsimp only at hSw); go_simp; first | done | with_reducible rfl)
      case hq610 => exact fun _ _ _ h => h
      try dsimp only [Act.put]
      refine wpAnyH_take (i := 11) (oi := ?oi611) (v := ?vv611) ?hi611 ?hn611 ?hf611 ?hr611 ?hq611 (Or.inl ⟨?hg611, ?hy611⟩) hH0 ?rest611
      case hi611 => (simp only [List.getElem?_toArray, List.getElem?_cons_succ, List.getElem?_cons_zero]; rfl)
      case hn611 => kernel_rfl
      case hf611 => kernel_rfl
      case hr611 => kernel_rfl
      case hg611 => rfl
      case hy611 => (intro w hSw; (try dsimp only at hSw); go_simp; first | done | with_reducible rfl)
      case hq611 => exact fun _ _ _ h => h
      try dsimp only [Act.put]
      refine wpAnyH_take (i := 12) (oi := ?oi612) (v := ?vv612) ?hi612 ?hn612 ?hf612 ?hr612 ?hq612 (Or.inl ⟨?hg612, ?hy612⟩) hH0 ?rest612
      case hi612 => (simp only [List.getElem?_toArray, List.getElem?_cons_succ, List.getElem?_cons_zero]; rfl)
      case hn612 => kernel_rfl
      case hf612 => kernel_rfl
      case hr612 => kernel_rfl
      case hg612 => rfl
      case hy612 => (intro w hSw; (try dsimp only at hSw); go_simp; first | done | with_reducible rfl)
      case hq612 => exact fun _ _ _ h => h
      try dsimp only [Act.put]
      refine wpAnyH_take (i := 13) (oi := ?oi613) (v := ?vv613) ?hi613 ?hn613 ?hf613 ?hr613 ?hq613 (Or.inl ⟨?hg613, ?hy613⟩) hH0 ?rest613
      case hi613 => (simp only [List.getElem?_toArray, List.getElem?_cons_succ, List.getElem?_cons_zero]; rfl)
      case hn613 => kernel_rfl
      case hf613 => kernel_rfl
      case hr613 => kernel_rfl
      case hg613 => rfl
      case hy613 => (intro w hSw; (try dsimp only at hSw); go_simp; first | done | with_reducible rfl)
      case hq613 => exact fun _ _ _ h => h
      try dsimp only [Act.put]
      refine wpAnyH_take (i := 14) (oi := ?oi614) (v := ?vv614) ?hi614 ?hn614 ?hf614 ?hr614 ?hq614 (Or.inl ⟨?hg614, ?hy614⟩) hH0 ?rest614
      case hi614 => (simp only [List.getElem?_toArray, List.getElem?_cons_succ, List.getElem?_cons_zero]; rfl)
      case hn614 => kernel_rfl
      case hf614 => kernel_rfl
      case hr614 => kernel_rfl
      case hg614 => rfl
      case hy614 => (intro w hSw; (try dsimp only at hSw); go_simp; first | done | with_reducible rfl)
      case hq614 => exact fun _ _ _ h => h
      try dsimp only [Act.put]
      refine wpAnyH_take (i := 15) (oi := ?oi615) (v := ?vv615) ?hi615 ?hn615 ?hf615 ?hr615 ?hq615 (Or.inl ⟨?hg615, ?hy615⟩) hH0 ?rest615
      case hi615 => (simp only [List.getElem?_toArray, List.getElem?_cons_succ, List.getElem?_cons_zero]; rfl)
      case hn615 => kernel_rfl
      case hf615 => kernel_rfl
      case hr615 => kernel_rfl
      case hg615 => rfl
      case hy615 => (intro w hSw; (try dsimp only at hSw); go_simp; first | done | with_reducible rfl)
      case hq615 => exact fun _ _ _ h => h
      try dsimp only [Act.put]
      refine held_one 8 rfl (by kernel_rfl) (fun K hK => ?_)
      go_simp
      refine (jl _ (HL.out.keep hbd)).mono ?_; rintro e W1 ⟨v1, own1, hb1, rfl⟩
      obtain ⟨oa1, c1, rfl, src1⟩ := own1.srcT
      have SR1 := Lib.hid src1
      generalize hn1 : L1.length = n1 at *
      have HN1 := Lib.hid hn1
      clear hn1 src1 own1
      go_wp2_with fail
      have hH1 : (fun (w' : World) => ((w'.cell? ⟨b, 0, none⟩ = some (.pointer (some ⟨bl, 0, none⟩)) ∧ w'.cell? ⟨b, 1, none⟩ = some (.pointer (some ⟨br, 0, none⟩))) ∧ Below w.heap.size w w') ∧ Below W1.heap.size W1 w') W1 := ⟨⟨keep_two (nx hbd hb1) HLT ⟨h1, h2⟩, nx hbd hb1⟩, Below.refl _ _⟩
      refine hK.out (fun (w' : World) => ((w'.cell? ⟨b, 0, none⟩ = some (.pointer (some ⟨bl, 0, none⟩)) ∧ w'.cell? ⟨b, 1, none⟩ = some (.pointer (some ⟨br, 0, none⟩))) ∧ Below w.heap.size w w') ∧ Below W1.heap.size W1 w') _ _ (fun _ h => h.1) hH1 ?_
      clear hK K
      try dsimp only [Act.put]
      refine held_one 16 rfl (by kernel_rfl) (fun K hK => ?_)
      go_simp
      refine (jr _ (HR.out.keep hH1.1.2)).mono ?_; rintro e W2 ⟨v2, own2, hb2, rfl⟩
      obtain ⟨oa2, c2, rfl, src2⟩ := own2.srcT
      have SR2 := Lib.hid src2
      generalize hn2 : L2.length = n2 at *
      have HN2 := Lib.hid hn2
      clear hn2 src2 own2
      go_wp2_with fail
      have hH2 : (fun (w' : World) => (((w'.cell? ⟨b, 0, none⟩ = some (.pointer (some ⟨bl, 0, none⟩)) ∧ w'.cell? ⟨b, 1, none⟩ = some (.pointer (some ⟨br, 0, none⟩))) ∧ Below w.heap.size w w') ∧ Below W1.heap.size W1 w') ∧ Below W2.heap.size W2 w') W2 := ⟨⟨⟨keep_two (nx hH1.1.2 hb2) HLT ⟨h1, h2⟩, nx hH1.1.2 hb2⟩, hb2⟩, Below.refl _ _⟩
      refine hK.out (fun (w' : World) => (((w'.cell? ⟨b, 0, none⟩ = some (.pointer (some ⟨bl, 0, none⟩)) ∧ w'.cell? ⟨b, 1, none⟩ = some (.pointer (some ⟨br, 0, none⟩))) ∧ Below w.heap.size w w') ∧ Below W1.heap.size W1 w') ∧ Below W2.heap.size W2 w') _ _ (fun _ h => h.1) hH2 ?_
      clear hK K
      try dsimp only [Act.put]
      refine held_one 17 rfl (by kernel_rfl) (fun K hK => ?_)
      go_simp
      refine (fun (H : ∀ W : World, (fun (w' : World) => ((((w'.cell? ⟨b, 0, none⟩ = some (.pointer (some ⟨bl, 0, none⟩)) ∧ w'.cell? ⟨b, 1, none⟩ = some (.pointer (some ⟨br, 0, none⟩))) ∧ Below w.heap.size w w') ∧ Below W1.heap.size W1 w') ∧ Below W2.heap.size W2 w') ∧ (w'.cell? ⟨W2.heap.size, 0, none⟩ = some (.slice oa0 1 c0) ∧ w'.cell? ⟨W2.heap.size, 1, none⟩ = some (.slice oa1 n1 c1) ∧ w'.cell? ⟨W2.heap.size, 2, none⟩ = some (.slice oa2 n2 c2))) W → K _ W) => H _ ?hH902) (fun W902 hW902 => ?main902)
      case hH902 => exact ⟨⟨⟨⟨keep_two (nxAlloc hH2.1.1.2 (.cells #[.slice oa0 1 c0, .slice oa1 n1 c1, .slice oa2 n2 c2] 25 (0, 0))) HLT ⟨h1, h2⟩, nxAlloc hH2.1.1.2 (.cells #[.slice oa0 1 c0, .slice oa1 n1 c1, .slice oa2 n2 c2] 25 (0, 0))⟩, nxAlloc hH2.1.2 (.cells #[.slice oa0 1 c0, .slice oa1 n1 c1, .slice oa2 n2 c2] 25 (0, 0))⟩, nxAlloc (Below.refl _ _) (.cells #[.slice oa0 1 c0, .slice oa1 n1 c1, .slice oa2 n2 c2] 25 (0, 0))⟩, cell_newB _ _ _ 0 rfl, cell_newB _ _ _ 1 rfl, cell_newB _ _ _ 2 rfl⟩
      case main902 =>
      refine hK.out (fun (w' : World) => ((((w'.cell? ⟨b, 0, none⟩ = some (.pointer (some ⟨bl, 0, none⟩)) ∧ w'.cell? ⟨b, 1, none⟩ = some (.pointer (some ⟨br, 0, none⟩))) ∧ Below w.heap.size w w') ∧ Below W1.heap.size W1 w') ∧ Below W2.heap.size W2 w') ∧ (w'.cell? ⟨W2.heap.size, 0, none⟩ = some (.slice oa0 1 c0) ∧ w'.cell? ⟨W2.heap.size, 1, none⟩ = some (.slice oa1 n1 c1) ∧ w'.cell? ⟨W2.heap.size, 2, none⟩ = some (.slice oa2 n2 c2))) _ _ (fun _ h => h.1) hW902 ?_
      clear hK K
      try dsimp only [Act.put]
      have hPt : PartsS W902 W2.heap.size [.slice oa0 1 c0, .slice oa1 n1 c1, .slice oa2 n2 c2] [[here], L1, L2] := by
        refine ⟨World.block_lt_of_cell? W902 _ hW902.2.1, rfl, fun i hi => ?_⟩
        match i, hi with
        | 0, _ => exact ⟨hW902.2.1, SR0.out.keep (nx (nx (nx (Below.refl _ _).drew hb1) hb2) hW902.1.2)⟩
        | 1, _ => exact ⟨hW902.2.2.1, SR1.out.keep hW902.1.1.2⟩
        | 2, _ => exact ⟨hW902.2.2.2, SR2.out.keep hW902.1.2⟩
      refine held_one 18 rfl (by kernel_rfl) (fun K hK => ?_)
      go_simp
      refine (concatS_any W2.heap.size 3 _ _ W902 hPt rfl (by omega) (by
        have e1 := HN1.out
        have e2 := HN2.out
        simp; omega)).mono ?_; rintro e W5 ⟨v5, own5, hb5, rfl⟩
      go_wp2_with fail
      have hH5 : (fun (w' : World) => ((((w'.cell? ⟨b, 0, none⟩ = some (.pointer (some ⟨bl, 0, none⟩)) ∧ w'.cell? ⟨b, 1, none⟩ = some (.pointer (some ⟨br, 0, none⟩))) ∧ Below w.heap.size w w') ∧ Below W1.heap.size W1 w') ∧ Below W2.heap.size W2 w') ∧ (w'.cell? ⟨W2.heap.size, 0, none⟩ = some (.slice oa0 1 c0) ∧ w'.cell? ⟨W2.heap.size, 1, none⟩ = some (.slice oa1 n1 c1) ∧ w'.cell? ⟨W2.heap.size, 2, none⟩ = some (.slice oa2 n2 c2))) W5 := ⟨⟨⟨⟨keep_two (nx hW902.1.1.1.2 hb5) HLT ⟨h1, h2⟩, nx hW902.1.1.1.2 hb5⟩, nx hW902.1.1.2 hb5⟩, nx hW902.1.2 hb5⟩, keep_cell hb5 hW902.2.1, keep_cell hb5 hW902.2.2.1, keep_cell hb5 hW902.2.2.2⟩
      refine hK.out (fun (w' : World) => ((((w'.cell? ⟨b, 0, none⟩ = some (.pointer (some ⟨bl, 0, none⟩)) ∧ w'.cell? ⟨b, 1, none⟩ = some (.pointer (some ⟨br, 0, none⟩))) ∧ Below w.heap.size w w') ∧ Below W1.heap.size W1 w') ∧ Below W2.heap.size W2 w') ∧ (w'.cell? ⟨W2.heap.size, 0, none⟩ = some (.slice oa0 1 c0) ∧ w'.cell? ⟨W2.heap.size, 1, none⟩ = some (.slice oa1 n1 c1) ∧ w'.cell? ⟨W2.heap.size, 2, none⟩ = some (.slice oa2 n2 c2))) _ _ (fun _ h => h) hH5 ?_
      clear hK K
      try dsimp only [Act.put]
      refine wpAnyH_take (i := 19) (oi := ?oi801) (v := ?vv801) ?hi801 ?hn801 ?hf801 ?hr801 ?hq801 (Or.inl ⟨?hg801, ?hy801⟩) hH5 ?rest801
      case hi801 => (simp only [List.getElem?_toArray, List.getElem?_cons_succ, List.getElem?_cons_zero]; rfl)
      case hn801 => kernel_rfl
      case hf801 => kernel_rfl
      case hr801 => kernel_rfl
      case hg801 => rfl
      case hy801 => (intro w hSw; (try dsimp only at hSw); go_simp; first | done | with_reducible rfl)
      case hq801 => exact fun _ _ _ h => h
      try dsimp only [Act.put]
      refine wpAnyH_done (by kernel_rfl) ?_ _
      simp only [List.setIfInBounds_toArray, List.set_cons_zero, List.set_cons_succ]
      go_wp2_with fail
      go_ret
      exact ⟨v5, by
        have h9 := own5
        simp only [List.flatten_cons, List.flatten_nil, List.append_nil] at h9
        exact (by simpa using h9 : OwnS W902.heap.size W5 v5 ([here] ++ (L1 ++ L2))).mono (hW902.1.1.1.2.size), hH5.1.1.1.2, rfl⟩
end Go.Proofs.Ytkoebmdocenlkaa
