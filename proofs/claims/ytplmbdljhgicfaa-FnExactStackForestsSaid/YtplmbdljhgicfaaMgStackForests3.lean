/- FnExactStackForests: for every input the law returns true and leaves its arguments as they were. No conditions. -/
import Derived.Test.YtplmbdljhgicfaaMgStackForests2
import Derived.ProofKit
import Derived.OpenShut
import Derived.ShutString
import Derived.ChangeOld
import Derived.Below
import Derived.SliceStrings
/-! Ff14 -/
namespace Go.Proofs.Ytplmbdljhgicfaa
open Go.RowKit

theorem cell_new (w : World) (cs : Array Value) (t : TypeId) (j : Nat) {u : Value} (h : cs[j]? = some u) : (w.alloc (.cells cs t (0, 0))).cell? ⟨w.heap.size, j, none⟩ = some u := by
  have := heap_alloc_at w (.cells cs t (0, 0))
  simp only [World.cell?, this]
  exact h
set_option maxRecDepth 100000 in
set_option maxHeartbeats 8000000 in
theorem stacked_any (v : Value) (b : Nat) (us : List Tr) (v2 : Value) (b2 : Nat) (vs : List Tr) (w : World) (h : CellsS b w v (strs us)) (h2 : CellsS b2 w v2 (strs vs)) (hs : sumT us ≤ 100) (ht : sumT vs ≤ 100) (hl : us.length ≤ 100) (hm : vs.length ≤ 100) :
    Calls Try.prog 72 #[v, v2] w (GivesOwn (strs (stackF us vs)) w) := by
  have HA := Lib.hid h
  have HB := Lib.hid h2
  obtain ⟨oa, cap, rfl, hcl, hcm, hcc⟩ := h.form0
  obtain ⟨ob, bcap, rfl, hdl, hdm, hdc⟩ := h2.form0
  unfold maxLen at hcm hdm
  simp only [strs_length] at *
  have hLv := fun w h => leavesIn_any (.slice oa us.length cap) b us w h (by omega) (by omega)
  have HC := Lib.hid hcc
  have HD := Lib.hid hdc
  clear h h2 hcc hdc
  obtain ⟨c, hc⟩ : ∃ c, c = min (leavesL us) vs.length := ⟨_, rfl⟩
  have hleq : leavesL us ≤ 200 := by unfold leavesL; omega
  have hc1 : c ≤ leavesL us := by omega
  have hc2 : c ≤ vs.length := by omega
  have hd1 : c ≤ bcap := by omega
  obtain ⟨r, hr⟩ : ∃ r, r = leavesL us - c := ⟨_, rfl⟩
  have hr0 : r ≤ 1000 := by omega
  have hri : (leavesL us : Int) - (c : Int) = (r : Int) := by omega
  have hmin : min (leavesL us : Int) (vs.length : Int) = (c : Int) := by omega
  have HCC := Lib.hid hc
  have HRR := Lib.hid hr
  generalize hleav : leavesL us = n at *
  have HLE := Lib.hid hleav
  clear hleav hc hr
  go_enter Try.func72, Try.ntmps72
  go_wp2_with fail
  refine (hLv _ HA.out).mono ?_; rintro e w1 ⟨rfl, hb1⟩
  have hcell : (w1.alloc (.cells #[.string ⟨#[46]⟩] 9 (0, 0))).cell? ⟨w1.heap.size, 0, none⟩ = some (.string ⟨#[46]⟩) := by
    have := heap_alloc_at w1 (.cells #[.string ⟨#[46]⟩] 9 (0, 0))
    simp only [World.cell?, this]; rfl
  have hb2 := nxAlloc hb1 (.cells #[.string ⟨#[46]⟩] 9 (0, 0))
  go_wp2_with fail
  refine (repeatS_any ⟨#[46]⟩ r w1.heap.size 1 _ hr0 hcell).mono ?_; rintro e w3 ⟨g3, own3, hb3, rfl⟩
  replace hb3 := nx hb2 hb3
  clear hcell
  have hd2 : (c : Int) ≤ (bcap : Int) := by omega
  have hd3 : (0 : Int) ≤ (c : Int) := by omega
  have hsl : (vs.drop c).length = vs.length - c := List.length_drop
  have hsd : sumT (vs.drop c) ≤ 100 := by have := sumT_app (vs.take c) (vs.drop c); rw [List.take_append_drop] at this; omega
  have hst : sumT (vs.take c) ≤ 100 := by have := sumT_app (vs.take c) (vs.drop c); rw [List.take_append_drop] at this; omega
  have hHU : ∀ (o2 : Option Addr) (cap2 : Nat) (w' : World), (∀ i, i < (vs.drop c).length → ∃ g off, o2 = some ⟨g, off, none⟩ ∧ g < w'.heap.size ∧ w'.cell? ⟨g, off + i, none⟩ = some (.string ((strs (vs.drop c))[i]?.getD ⟨#[]⟩))) → Calls Try.prog 82 #[.slice o2 ((vs.length - c : Nat) : Nat) cap2] w' (Gives (.string (combT (vs.drop c)).str) w') := fun o2 cap2 w' hI => by
    have h1 := hungO_any o2 cap2 (vs.drop c) w' hI (by omega) (by omega)
    rw [hsl] at h1; exact h1
  -- what the leaves are handed
  obtain ⟨WS, hWS⟩ : ∃ WS, WS = vs.take c ++ (List.replicate r .lf ++ [combT (vs.drop c)]) := ⟨_, rfl⟩
  have hk1 := combT_carets us
  have hk2 := combT_carets (vs.drop c)
  have hWl : WS.length = (combT us).leaves := by
    have e1 := HLE.out
    have e2 := HRR.out
    rw [hWS]; unfold leavesL at e1; unfold Tr.leaves
    simp; omega
  have hWsum : sumC WS ≤ 301 := by
    rw [hWS, sumC_append, sumC_append, sumC_eq, sumC_eq, sumT_lf, sumC_cons]
    have : sumC ([] : List Tr) = 0 := rfl
    omega
  have hfc := fill_carets (combT us) WS hWl
  have hflat : strs WS = (strs vs).take c ++ (List.replicate r (⟨#[46]⟩ : ByteArray) ++ [(combT (vs.drop c)).str]) := by
    rw [hWS]; unfold strs
    rw [List.map_append, List.map_append, List.map_take, List.map_replicate]; rfl
  have hft := fill_text (combT us) WS hWl
  have hfb := fillB_tr (combT us) WS hWl
  have hsz := (combT us).str_size
  have hdots := text_dots (combT us)
  have hW : ∀ v b w', CellsS b w' v (strs WS) → Calls Try.prog 103 #[.string (combT us).str, v] w' (Gives (.string ((combT us).fill WS).str) w') := fun v b w' h => by
    have hfl : fillL (combT us).str.data.toList (strs WS) = ((combT us).fill WS).text := by rw [Tr.str_list]; exact hft
    have h1 := withLeaves_any b (combT us).str v (strs WS) w' (by omega) h (by rw [Tr.str_list, hdots, strs_length, hWl]; unfold Tr.leaves; exact Nat.le_refl _) (by rw [strs_length, hWl]; unfold Tr.leaves; omega) (by rw [hfl, Tr.text_len, hfc]; omega) (by rw [hfl]; intro e; have := congrArg List.length e; rw [Tr.text_len] at this; simp at this)
    rw [show fillB (combT us).str (strs WS) = ((combT us).fill WS).str from hfb] at h1
    exact h1
  have hTO := fun w' => treeOf_any ((combT us).fill WS) w' (by rw [hfc]; omega)
  have hHg := fun b w' h => hanging_any ((combT us).fill WS) b w' h (by rw [hfc]; omega)
  have hfin : hangT ((combT us).fill WS) = stackF us vs := by
    rw [hWS, HRR.out, ← HLE.out]
    exact stack_hang us vs c (by rw [HLE.out]; exact HCC.out)
  rw [hfin] at hHg
  have hF := fun w' h => hung_any (.slice oa us.length cap) b us w' h (by omega) (by omega)
  have hparts : (strs vs).take c ++ (List.replicate r (⟨#[46]⟩ : ByteArray) ++ [(combT (vs.drop c)).str]) = [(strs vs).take c, List.replicate r (⟨#[46]⟩ : ByteArray), [(combT (vs.drop c)).str]].flatten := by simp
  rw [hparts] at hflat
  have hWl2 : (strs WS).length ≤ 300 := by rw [strs_length, hWl]; unfold Tr.leaves; omega
  have hsrcA : ∀ w', Below w3.heap.size w3 w' → SrcT w' (.slice ob c bcap) ((strs vs).take c) := fun w' hb => by
    have hbb := nx hb3 hb
    have htl : ((strs vs).take c).length = c := by rw [List.length_take, strs_length]; omega
    refine ⟨?_, ob, bcap, by rw [htl]⟩
    rcases (HB.out.keep hbb) with ⟨h0, h1⟩ | ⟨g, cap', h0, h1⟩
    · injection h0 with e1 e2 e3
      subst e1 e3
      obtain rfl : c = 0 := by omega
      exact .inl ⟨rfl, by simp⟩
    · injection h0 with e1 e2 e3
      subst e1 e3
      have hB2 := HB.out.keep hbb
      exact src_cells hB2 c (by rw [strs_length]; omega) bcap
  have hsrcB : ∀ w', Below w3.heap.size w3 w' → SrcT w' (.slice (some ⟨g3, 0, none⟩) r r) (List.replicate r (⟨#[46]⟩ : ByteArray)) := fun w' hb => by
    have h1 := own3.keep hb
    have hrl : (List.replicate r (⟨#[46]⟩ : ByteArray)).length = r := List.length_replicate
    have h2 := src_cells h1.cells r (by rw [hrl]; exact Nat.le_refl _) r
    rw [List.take_of_length_le (by rw [hrl]; exact Nat.le_refl _)] at h2
    exact ⟨h2, _, _, by rw [hrl]⟩
  generalize hTT : (combT (vs.drop c)).str = B at *
  generalize (combT us).str = U at *
  generalize (combT us).fill WS = FT at *
  generalize stackF us vs = J at *
  generalize strs WS = X at *
  have HX := Lib.hid hflat
  clear hflat hparts hft hfb hsz hdots hfin hfc hWsum hWl hWS hk1 hk2 hst hTT
  have hcs : (c : Int) ≤ (vs.length : Int) := by omega
  by_cases hcb : c = bcap
  · subst hcb
    have hz1 : vs.length - c = 0 := by omega
    have hHV : ∀ (o2 : Option Addr) (cap2 : Nat) (w' : World), Calls Try.prog 82 #[.slice o2 0 cap2] w' (Gives (.string B) w') := fun o2 cap2 w' => by
      have h1 := hHU o2 cap2 w' (fun i hi => by rw [hsl] at hi; omega)
      rw [hz1] at h1; exact h1
    clear hHU hsl hsd hz1
    go_wp2_with fail
    refine (hHV _ _ _).mono ?_; rintro e w4 ⟨rfl, hb4⟩
    clear hHV
    try go_wp2_with fail
    refine wp_region_held_drew (S := fun (w' : World) => Below w4.heap.size w4 w') (by kernel_rfl) (Below.refl w4.heap.size w4).drew (fun hH0 => ?_)
    refine wpAnyH_take (i := 0) (oi := ?oi301) (v := ?vv301) ?hi301 ?hn301 ?hf301 ?hr301 ?hq301 (Or.inl ⟨?hg301, ?hy301⟩) hH0 ?rest301
    case hi301 => (simp only [List.getElem?_toArray, List.getElem?_cons_zero]; rfl)
    case hn301 => kernel_rfl
    case hf301 => kernel_rfl
    case hr301 => kernel_rfl
    case hg301 => rfl
    case hy301 => (intro w hSw; (try dsimp only at hSw); go_simp; first | done | with_reducible rfl)
    case hq301 => exact fun _ _ _ h => h
    try dsimp only [Act.put]
    refine wpAnyH_take (i := 2) (oi := ?oi302) (v := ?vv302) ?hi302 ?hn302 ?hf302 ?hr302 ?hq302 (Or.inl ⟨?hg302, ?hy302⟩) hH0 ?rest302
    case hi302 => (simp only [List.getElem?_toArray, List.getElem?_cons_succ, List.getElem?_cons_zero]; rfl)
    case hn302 => kernel_rfl
    case hf302 => kernel_rfl
    case hr302 => kernel_rfl
    case hg302 => rfl
    case hy302 => (intro w hSw; (try dsimp only at hSw); go_simp; first | done | with_reducible rfl)
    case hq302 => exact fun _ _ _ h => h
    try dsimp only [Act.put]
    refine wpAnyH_take (i := 3) (oi := ?oi303) (v := ?vv303) ?hi303 ?hn303 ?hf303 ?hr303 ?hq303 (Or.inl ⟨?hg303, ?hy303⟩) hH0 ?rest303
    case hi303 => (simp only [List.getElem?_toArray, List.getElem?_cons_succ, List.getElem?_cons_zero]; rfl)
    case hn303 => kernel_rfl
    case hf303 => kernel_rfl
    case hr303 => kernel_rfl
    case hg303 => rfl
    case hy303 => (intro w hSw; (try dsimp only at hSw); go_simp; first | done | with_reducible rfl)
    case hq303 => exact fun _ _ _ h => h
    try dsimp only [Act.put]
    refine wpAnyH_take (i := 4) (oi := ?oi304) (v := ?vv304) ?hi304 ?hn304 ?hf304 ?hr304 ?hq304 (Or.inl ⟨?hg304, ?hy304⟩) hH0 ?rest304
    case hi304 => (simp only [List.getElem?_toArray, List.getElem?_cons_succ, List.getElem?_cons_zero]; rfl)
    case hn304 => kernel_rfl
    case hf304 => kernel_rfl
    case hr304 => kernel_rfl
    case hg304 => rfl
    case hy304 => (intro w hSw; (try dsimp only at hSw); go_simp; first | done | with_reducible rfl)
    case hq304 => exact fun _ _ _ h => h
    try dsimp only [Act.put]
    refine wpAnyH_take (i := 5) (oi := ?oi305) (v := ?vv305) ?hi305 ?hn305 ?hf305 ?hr305 ?hq305 (Or.inl ⟨?hg305, ?hy305⟩) hH0 ?rest305
    case hi305 => (simp only [List.getElem?_toArray, List.getElem?_cons_succ, List.getElem?_cons_zero]; rfl)
    case hn305 => kernel_rfl
    case hf305 => kernel_rfl
    case hr305 => kernel_rfl
    case hg305 => rfl
    case hy305 => (intro w hSw; (try dsimp only at hSw); go_simp; first | done | with_reducible rfl)
    case hq305 => exact fun _ _ _ h => h
    try dsimp only [Act.put]
    refine wpAnyH_take (i := 6) (oi := ?oi306) (v := ?vv306) ?hi306 ?hn306 ?hf306 ?hr306 ?hq306 (Or.inl ⟨?hg306, ?hy306⟩) hH0 ?rest306
    case hi306 => (simp only [List.getElem?_toArray, List.getElem?_cons_succ, List.getElem?_cons_zero]; rfl)
    case hn306 => kernel_rfl
    case hf306 => kernel_rfl
    case hr306 => kernel_rfl
    case hg306 => rfl
    case hy306 => (intro w hSw; (try dsimp only at hSw); go_simp; first | done | with_reducible rfl)
    case hq306 => exact fun _ _ _ h => h
    try dsimp only [Act.put]
    refine held_two 1 7 rfl rfl (by kernel_rfl) (fun K hK => ?_) (fun K hK => ?_)
    · go_simp
      refine (hF _ (HA.out.keep (nx (nx hb3 hb4) (hH0)))).mono ?_; rintro e W307 ⟨rfl, hb307⟩
      go_wp2_with fail
      have hW307 : (fun (w' : World) => Below w4.heap.size w4 w') W307 := nx hH0 hb307
      refine hK.out (fun (w' : World) => Below w4.heap.size w4 w') _ _ (fun _ h => h) hW307 ?_
      clear hK K
      try dsimp only [Act.put]
      refine held_one 7 rfl (by kernel_rfl) (fun K hK => ?_)
      go_simp
      refine (fun (H : ∀ W : World, (fun (w' : World) => (Below w4.heap.size w4 w' ∧ w'.cell? ⟨W307.heap.size, 0, none⟩ = some (.string B))) W → K _ W) => H _ ?hH308) (fun W308 hW308 => ?main308)
      case hH308 =>
        exact ⟨nx hW307 (nxAlloc (Below.refl W307.heap.size W307) (.cells #[.string B] 9 (0, 0))), cell_new _ _ _ 0 rfl⟩
      case main308 =>
      refine hK.out (fun (w' : World) => (Below w4.heap.size w4 w' ∧ w'.cell? ⟨W307.heap.size, 0, none⟩ = some (.string B))) _ _ (fun _ h => h.1) hW308 ?_
      clear hK K
      try dsimp only [Act.put]
      refine held_one 8 rfl (by kernel_rfl) (fun K hK => ?_)
      go_simp
      refine (fun (H : ∀ W : World, (fun (w' : World) => ((Below w4.heap.size w4 w' ∧ w'.cell? ⟨W307.heap.size, 0, none⟩ = some (.string B)) ∧ (w'.cell? ⟨W308.heap.size, 0, none⟩ = some (.slice ob c c) ∧ w'.cell? ⟨W308.heap.size, 1, none⟩ = some (.slice (some ⟨g3, 0, none⟩) r r) ∧ w'.cell? ⟨W308.heap.size, 2, none⟩ = some (.slice (some ⟨W307.heap.size, 0, none⟩) 1 1)))) W → K _ W) => H _ ?hH309) (fun W309 hW309 => ?main309)
      case hH309 =>
        exact ⟨⟨nx hW308.1 (nxAlloc (Below.refl W308.heap.size W308) (.cells #[.slice ob c c, .slice (some ⟨g3, 0, none⟩) r r, .slice (some ⟨W307.heap.size, 0, none⟩) 1 1] 22 (0, 0))), keep_cell (nxAlloc (Below.refl W308.heap.size W308) (.cells #[.slice ob c c, .slice (some ⟨g3, 0, none⟩) r r, .slice (some ⟨W307.heap.size, 0, none⟩) 1 1] 22 (0, 0))) hW308.2⟩, cell_new _ _ _ 0 rfl, cell_new _ _ _ 1 rfl, cell_new _ _ _ 2 rfl⟩
      case main309 =>
      refine hK.out (fun (w' : World) => ((Below w4.heap.size w4 w' ∧ w'.cell? ⟨W307.heap.size, 0, none⟩ = some (.string B)) ∧ (w'.cell? ⟨W308.heap.size, 0, none⟩ = some (.slice ob c c) ∧ w'.cell? ⟨W308.heap.size, 1, none⟩ = some (.slice (some ⟨g3, 0, none⟩) r r) ∧ w'.cell? ⟨W308.heap.size, 2, none⟩ = some (.slice (some ⟨W307.heap.size, 0, none⟩) 1 1)))) _ _ (fun _ h => h.1) hW309 ?_
      clear hK K
      try dsimp only [Act.put]
      have hbl := hW309.1.1
      have hPt : PartsS W309 W308.heap.size [.slice ob c c, .slice (some ⟨g3, 0, none⟩) r r, .slice (some ⟨W307.heap.size, 0, none⟩) 1 1] [(strs vs).take c, List.replicate r (⟨#[46]⟩ : ByteArray), [B]] := by
        refine ⟨World.block_lt_of_cell? W309 _ hW309.2.1, rfl, fun i hi => ?_⟩
        match i, hi with
        | 0, _ => exact ⟨hW309.2.1, hsrcA _ (nx hb4 hbl)⟩
        | 1, _ => exact ⟨hW309.2.2.1, hsrcB _ (nx hb4 hbl)⟩
        | 2, _ =>
          refine ⟨hW309.2.2.2, ⟨.inr ⟨⟨W307.heap.size, 0, none⟩, 1, rfl, fun j x hj => ?_⟩, _, _, rfl⟩⟩
          match j, hj with
          | 0, hj => simp at hj; subst hj; exact hW309.1.2
          | j + 1, hj => simp at hj
      refine held_one 9 rfl (by kernel_rfl) (fun K hK => ?_)
      go_simp
      refine (concatS_any W308.heap.size 3 _ _ W309 hPt rfl (by omega) (by rw [← HX.out]; omega)).mono ?_; rintro e W5 ⟨v5, own5, hb, rfl⟩
      rw [← HX.out] at own5
      go_wp2_with fail
      have hL5 : (fun (w' : World) => ((Below w4.heap.size w4 w' ∧ w'.cell? ⟨W307.heap.size, 0, none⟩ = some (.string B)) ∧ (w'.cell? ⟨W308.heap.size, 0, none⟩ = some (.slice ob c c) ∧ w'.cell? ⟨W308.heap.size, 1, none⟩ = some (.slice (some ⟨g3, 0, none⟩) r r) ∧ w'.cell? ⟨W308.heap.size, 2, none⟩ = some (.slice (some ⟨W307.heap.size, 0, none⟩) 1 1)))) W5 := ⟨⟨nx hW309.1.1 hb, keep_cell hb hW309.1.2⟩, keep_cell hb hW309.2.1, keep_cell hb hW309.2.2.1, keep_cell hb hW309.2.2.2⟩
      refine hK.out (fun (w' : World) => ((Below w4.heap.size w4 w' ∧ w'.cell? ⟨W307.heap.size, 0, none⟩ = some (.string B)) ∧ (w'.cell? ⟨W308.heap.size, 0, none⟩ = some (.slice ob c c) ∧ w'.cell? ⟨W308.heap.size, 1, none⟩ = some (.slice (some ⟨g3, 0, none⟩) r r) ∧ w'.cell? ⟨W308.heap.size, 2, none⟩ = some (.slice (some ⟨W307.heap.size, 0, none⟩) 1 1)))) _ _ (fun _ h => h) hL5 ?_
      clear hK K hb
      try dsimp only [Act.put]
      refine held_one 10 rfl (by kernel_rfl) (fun K hK => ?_)
      go_simp
      refine (hW v5 _ W5 own5.cells).mono ?_; rintro e W6 ⟨rfl, hb⟩
      go_wp2_with fail
      have hL6 : (fun (w' : World) => ((Below w4.heap.size w4 w' ∧ w'.cell? ⟨W307.heap.size, 0, none⟩ = some (.string B)) ∧ (w'.cell? ⟨W308.heap.size, 0, none⟩ = some (.slice ob c c) ∧ w'.cell? ⟨W308.heap.size, 1, none⟩ = some (.slice (some ⟨g3, 0, none⟩) r r) ∧ w'.cell? ⟨W308.heap.size, 2, none⟩ = some (.slice (some ⟨W307.heap.size, 0, none⟩) 1 1)))) W6 := ⟨⟨nx hL5.1.1 hb, keep_cell hb hL5.1.2⟩, keep_cell hb hL5.2.1, keep_cell hb hL5.2.2.1, keep_cell hb hL5.2.2.2⟩
      refine hK.out (fun (w' : World) => ((Below w4.heap.size w4 w' ∧ w'.cell? ⟨W307.heap.size, 0, none⟩ = some (.string B)) ∧ (w'.cell? ⟨W308.heap.size, 0, none⟩ = some (.slice ob c c) ∧ w'.cell? ⟨W308.heap.size, 1, none⟩ = some (.slice (some ⟨g3, 0, none⟩) r r) ∧ w'.cell? ⟨W308.heap.size, 2, none⟩ = some (.slice (some ⟨W307.heap.size, 0, none⟩) 1 1)))) _ _ (fun _ h => h) hL6 ?_
      clear hK K hb
      try dsimp only [Act.put]
      refine held_one 11 rfl (by kernel_rfl) (fun K hK => ?_)
      go_simp
      refine (hTO _).mono ?_; rintro e W7 ⟨p7, hp7, hb, rfl⟩
      go_wp2_with fail
      have hL7 : (fun (w' : World) => ((Below w4.heap.size w4 w' ∧ w'.cell? ⟨W307.heap.size, 0, none⟩ = some (.string B)) ∧ (w'.cell? ⟨W308.heap.size, 0, none⟩ = some (.slice ob c c) ∧ w'.cell? ⟨W308.heap.size, 1, none⟩ = some (.slice (some ⟨g3, 0, none⟩) r r) ∧ w'.cell? ⟨W308.heap.size, 2, none⟩ = some (.slice (some ⟨W307.heap.size, 0, none⟩) 1 1)))) W7 := ⟨⟨nx hL6.1.1 hb, keep_cell hb hL6.1.2⟩, keep_cell hb hL6.2.1, keep_cell hb hL6.2.2.1, keep_cell hb hL6.2.2.2⟩
      refine hK.out (fun (w' : World) => ((Below w4.heap.size w4 w' ∧ w'.cell? ⟨W307.heap.size, 0, none⟩ = some (.string B)) ∧ (w'.cell? ⟨W308.heap.size, 0, none⟩ = some (.slice ob c c) ∧ w'.cell? ⟨W308.heap.size, 1, none⟩ = some (.slice (some ⟨g3, 0, none⟩) r r) ∧ w'.cell? ⟨W308.heap.size, 2, none⟩ = some (.slice (some ⟨W307.heap.size, 0, none⟩) 1 1)))) _ _ (fun _ h => h) hL7 ?_
      clear hK K hb
      try dsimp only [Act.put]
      refine held_one 12 rfl (by kernel_rfl) (fun K hK => ?_)
      go_simp
      refine (hHg p7 W7 hp7).mono ?_; rintro e W8 ⟨v8, own8, hb, rfl⟩
      go_wp2_with fail
      have hL8 : (fun (w' : World) => ((Below w4.heap.size w4 w' ∧ w'.cell? ⟨W307.heap.size, 0, none⟩ = some (.string B)) ∧ (w'.cell? ⟨W308.heap.size, 0, none⟩ = some (.slice ob c c) ∧ w'.cell? ⟨W308.heap.size, 1, none⟩ = some (.slice (some ⟨g3, 0, none⟩) r r) ∧ w'.cell? ⟨W308.heap.size, 2, none⟩ = some (.slice (some ⟨W307.heap.size, 0, none⟩) 1 1)))) W8 := ⟨⟨nx hL7.1.1 hb, keep_cell hb hL7.1.2⟩, keep_cell hb hL7.2.1, keep_cell hb hL7.2.2.1, keep_cell hb hL7.2.2.2⟩
      refine hK.out (fun (w' : World) => ((Below w4.heap.size w4 w' ∧ w'.cell? ⟨W307.heap.size, 0, none⟩ = some (.string B)) ∧ (w'.cell? ⟨W308.heap.size, 0, none⟩ = some (.slice ob c c) ∧ w'.cell? ⟨W308.heap.size, 1, none⟩ = some (.slice (some ⟨g3, 0, none⟩) r r) ∧ w'.cell? ⟨W308.heap.size, 2, none⟩ = some (.slice (some ⟨W307.heap.size, 0, none⟩) 1 1)))) _ _ (fun _ h => h) hL8 ?_
      clear hK K hb
      try dsimp only [Act.put]
      refine wpAnyH_take (i := 13) (oi := ?oi310) (v := ?vv310) ?hi310 ?hn310 ?hf310 ?hr310 ?hq310 (Or.inl ⟨?hg310, ?hy310⟩) hL8 ?rest310
      case hi310 => (simp only [List.getElem?_toArray, List.getElem?_cons_succ, List.getElem?_cons_zero]; rfl)
      case hn310 => kernel_rfl
      case hf310 => kernel_rfl
      case hr310 => kernel_rfl
      case hg310 => rfl
      case hy310 => (intro w hSw; (try dsimp only at hSw); go_simp; first | done | with_reducible rfl)
      case hq310 => exact fun _ _ _ h => h
      try dsimp only [Act.put]
      refine wpAnyH_done (by kernel_rfl) ?_ _
      try simp only [List.setIfInBounds_toArray, List.set_cons_zero, List.set_cons_succ]
      have hbz := nx (nx hb3 hb4) (hL8.1.1)
      have hbz7 := nx (nx hb3 hb4) (hL7.1.1)
      replace own8 := own8.mono hbz7.size
      go_wp2_with fail
      go_ret
      exact ⟨_, own8, hbz, rfl⟩
    · go_simp
      refine (fun (H : ∀ W : World, (fun (w' : World) => (Below w4.heap.size w4 w' ∧ w'.cell? ⟨w4.heap.size, 0, none⟩ = some (.string B))) W → K _ W) => H _ ?hH311) (fun W311 hW311 => ?main311)
      case hH311 =>
        exact ⟨nx hH0 (nxAlloc (Below.refl w4.drew.heap.size w4.drew) (.cells #[.string B] 9 (0, 0))), cell_new _ _ _ 0 rfl⟩
      case main311 =>
      refine hK.out (fun (w' : World) => (Below w4.heap.size w4 w' ∧ w'.cell? ⟨w4.heap.size, 0, none⟩ = some (.string B))) _ _ (fun _ h => h.1) hW311 ?_
      clear hK K
      try dsimp only [Act.put]
      refine held_two 1 8 rfl rfl (by kernel_rfl) (fun K hK => ?_) (fun K hK => ?_)
      · go_simp
        refine (hF _ (HA.out.keep (nx (nx hb3 hb4) (hW311.1)))).mono ?_; rintro e W312 ⟨rfl, hb312⟩
        go_wp2_with fail
        have hW312 : (fun (w' : World) => (Below w4.heap.size w4 w' ∧ w'.cell? ⟨w4.heap.size, 0, none⟩ = some (.string B))) W312 := ⟨nx hW311.1 hb312, keep_cell hb312 hW311.2⟩
        refine hK.out (fun (w' : World) => (Below w4.heap.size w4 w' ∧ w'.cell? ⟨w4.heap.size, 0, none⟩ = some (.string B))) _ _ (fun _ h => h) hW312 ?_
        clear hK K
        try dsimp only [Act.put]
        refine held_one 8 rfl (by kernel_rfl) (fun K hK => ?_)
        go_simp
        refine (fun (H : ∀ W : World, (fun (w' : World) => ((Below w4.heap.size w4 w' ∧ w'.cell? ⟨w4.heap.size, 0, none⟩ = some (.string B)) ∧ (w'.cell? ⟨W312.heap.size, 0, none⟩ = some (.slice ob c c) ∧ w'.cell? ⟨W312.heap.size, 1, none⟩ = some (.slice (some ⟨g3, 0, none⟩) r r) ∧ w'.cell? ⟨W312.heap.size, 2, none⟩ = some (.slice (some ⟨w4.heap.size, 0, none⟩) 1 1)))) W → K _ W) => H _ ?hH313) (fun W313 hW313 => ?main313)
        case hH313 =>
          exact ⟨⟨nx hW312.1 (nxAlloc (Below.refl W312.heap.size W312) (.cells #[.slice ob c c, .slice (some ⟨g3, 0, none⟩) r r, .slice (some ⟨w4.heap.size, 0, none⟩) 1 1] 22 (0, 0))), keep_cell (nxAlloc (Below.refl W312.heap.size W312) (.cells #[.slice ob c c, .slice (some ⟨g3, 0, none⟩) r r, .slice (some ⟨w4.heap.size, 0, none⟩) 1 1] 22 (0, 0))) hW312.2⟩, cell_new _ _ _ 0 rfl, cell_new _ _ _ 1 rfl, cell_new _ _ _ 2 rfl⟩
        case main313 =>
        refine hK.out (fun (w' : World) => ((Below w4.heap.size w4 w' ∧ w'.cell? ⟨w4.heap.size, 0, none⟩ = some (.string B)) ∧ (w'.cell? ⟨W312.heap.size, 0, none⟩ = some (.slice ob c c) ∧ w'.cell? ⟨W312.heap.size, 1, none⟩ = some (.slice (some ⟨g3, 0, none⟩) r r) ∧ w'.cell? ⟨W312.heap.size, 2, none⟩ = some (.slice (some ⟨w4.heap.size, 0, none⟩) 1 1)))) _ _ (fun _ h => h.1) hW313 ?_
        clear hK K
        try dsimp only [Act.put]
        have hbl := hW313.1.1
        have hPt : PartsS W313 W312.heap.size [.slice ob c c, .slice (some ⟨g3, 0, none⟩) r r, .slice (some ⟨w4.heap.size, 0, none⟩) 1 1] [(strs vs).take c, List.replicate r (⟨#[46]⟩ : ByteArray), [B]] := by
          refine ⟨World.block_lt_of_cell? W313 _ hW313.2.1, rfl, fun i hi => ?_⟩
          match i, hi with
          | 0, _ => exact ⟨hW313.2.1, hsrcA _ (nx hb4 hbl)⟩
          | 1, _ => exact ⟨hW313.2.2.1, hsrcB _ (nx hb4 hbl)⟩
          | 2, _ =>
            refine ⟨hW313.2.2.2, ⟨.inr ⟨⟨w4.heap.size, 0, none⟩, 1, rfl, fun j x hj => ?_⟩, _, _, rfl⟩⟩
            match j, hj with
            | 0, hj => simp at hj; subst hj; exact hW313.1.2
            | j + 1, hj => simp at hj
        refine held_one 9 rfl (by kernel_rfl) (fun K hK => ?_)
        go_simp
        refine (concatS_any W312.heap.size 3 _ _ W313 hPt rfl (by omega) (by rw [← HX.out]; omega)).mono ?_; rintro e W5 ⟨v5, own5, hb, rfl⟩
        rw [← HX.out] at own5
        go_wp2_with fail
        have hL5 : (fun (w' : World) => ((Below w4.heap.size w4 w' ∧ w'.cell? ⟨w4.heap.size, 0, none⟩ = some (.string B)) ∧ (w'.cell? ⟨W312.heap.size, 0, none⟩ = some (.slice ob c c) ∧ w'.cell? ⟨W312.heap.size, 1, none⟩ = some (.slice (some ⟨g3, 0, none⟩) r r) ∧ w'.cell? ⟨W312.heap.size, 2, none⟩ = some (.slice (some ⟨w4.heap.size, 0, none⟩) 1 1)))) W5 := ⟨⟨nx hW313.1.1 hb, keep_cell hb hW313.1.2⟩, keep_cell hb hW313.2.1, keep_cell hb hW313.2.2.1, keep_cell hb hW313.2.2.2⟩
        refine hK.out (fun (w' : World) => ((Below w4.heap.size w4 w' ∧ w'.cell? ⟨w4.heap.size, 0, none⟩ = some (.string B)) ∧ (w'.cell? ⟨W312.heap.size, 0, none⟩ = some (.slice ob c c) ∧ w'.cell? ⟨W312.heap.size, 1, none⟩ = some (.slice (some ⟨g3, 0, none⟩) r r) ∧ w'.cell? ⟨W312.heap.size, 2, none⟩ = some (.slice (some ⟨w4.heap.size, 0, none⟩) 1 1)))) _ _ (fun _ h => h) hL5 ?_
        clear hK K hb
        try dsimp only [Act.put]
        refine held_one 10 rfl (by kernel_rfl) (fun K hK => ?_)
        go_simp
        refine (hW v5 _ W5 own5.cells).mono ?_; rintro e W6 ⟨rfl, hb⟩
        go_wp2_with fail
        have hL6 : (fun (w' : World) => ((Below w4.heap.size w4 w' ∧ w'.cell? ⟨w4.heap.size, 0, none⟩ = some (.string B)) ∧ (w'.cell? ⟨W312.heap.size, 0, none⟩ = some (.slice ob c c) ∧ w'.cell? ⟨W312.heap.size, 1, none⟩ = some (.slice (some ⟨g3, 0, none⟩) r r) ∧ w'.cell? ⟨W312.heap.size, 2, none⟩ = some (.slice (some ⟨w4.heap.size, 0, none⟩) 1 1)))) W6 := ⟨⟨nx hL5.1.1 hb, keep_cell hb hL5.1.2⟩, keep_cell hb hL5.2.1, keep_cell hb hL5.2.2.1, keep_cell hb hL5.2.2.2⟩
        refine hK.out (fun (w' : World) => ((Below w4.heap.size w4 w' ∧ w'.cell? ⟨w4.heap.size, 0, none⟩ = some (.string B)) ∧ (w'.cell? ⟨W312.heap.size, 0, none⟩ = some (.slice ob c c) ∧ w'.cell? ⟨W312.heap.size, 1, none⟩ = some (.slice (some ⟨g3, 0, none⟩) r r) ∧ w'.cell? ⟨W312.heap.size, 2, none⟩ = some (.slice (some ⟨w4.heap.size, 0, none⟩) 1 1)))) _ _ (fun _ h => h) hL6 ?_
        clear hK K hb
        try dsimp only [Act.put]
        refine held_one 11 rfl (by kernel_rfl) (fun K hK => ?_)
        go_simp
        refine (hTO _).mono ?_; rintro e W7 ⟨p7, hp7, hb, rfl⟩
        go_wp2_with fail
        have hL7 : (fun (w' : World) => ((Below w4.heap.size w4 w' ∧ w'.cell? ⟨w4.heap.size, 0, none⟩ = some (.string B)) ∧ (w'.cell? ⟨W312.heap.size, 0, none⟩ = some (.slice ob c c) ∧ w'.cell? ⟨W312.heap.size, 1, none⟩ = some (.slice (some ⟨g3, 0, none⟩) r r) ∧ w'.cell? ⟨W312.heap.size, 2, none⟩ = some (.slice (some ⟨w4.heap.size, 0, none⟩) 1 1)))) W7 := ⟨⟨nx hL6.1.1 hb, keep_cell hb hL6.1.2⟩, keep_cell hb hL6.2.1, keep_cell hb hL6.2.2.1, keep_cell hb hL6.2.2.2⟩
        refine hK.out (fun (w' : World) => ((Below w4.heap.size w4 w' ∧ w'.cell? ⟨w4.heap.size, 0, none⟩ = some (.string B)) ∧ (w'.cell? ⟨W312.heap.size, 0, none⟩ = some (.slice ob c c) ∧ w'.cell? ⟨W312.heap.size, 1, none⟩ = some (.slice (some ⟨g3, 0, none⟩) r r) ∧ w'.cell? ⟨W312.heap.size, 2, none⟩ = some (.slice (some ⟨w4.heap.size, 0, none⟩) 1 1)))) _ _ (fun _ h => h) hL7 ?_
        clear hK K hb
        try dsimp only [Act.put]
        refine held_one 12 rfl (by kernel_rfl) (fun K hK => ?_)
        go_simp
        refine (hHg p7 W7 hp7).mono ?_; rintro e W8 ⟨v8, own8, hb, rfl⟩
        go_wp2_with fail
        have hL8 : (fun (w' : World) => ((Below w4.heap.size w4 w' ∧ w'.cell? ⟨w4.heap.size, 0, none⟩ = some (.string B)) ∧ (w'.cell? ⟨W312.heap.size, 0, none⟩ = some (.slice ob c c) ∧ w'.cell? ⟨W312.heap.size, 1, none⟩ = some (.slice (some ⟨g3, 0, none⟩) r r) ∧ w'.cell? ⟨W312.heap.size, 2, none⟩ = some (.slice (some ⟨w4.heap.size, 0, none⟩) 1 1)))) W8 := ⟨⟨nx hL7.1.1 hb, keep_cell hb hL7.1.2⟩, keep_cell hb hL7.2.1, keep_cell hb hL7.2.2.1, keep_cell hb hL7.2.2.2⟩
        refine hK.out (fun (w' : World) => ((Below w4.heap.size w4 w' ∧ w'.cell? ⟨w4.heap.size, 0, none⟩ = some (.string B)) ∧ (w'.cell? ⟨W312.heap.size, 0, none⟩ = some (.slice ob c c) ∧ w'.cell? ⟨W312.heap.size, 1, none⟩ = some (.slice (some ⟨g3, 0, none⟩) r r) ∧ w'.cell? ⟨W312.heap.size, 2, none⟩ = some (.slice (some ⟨w4.heap.size, 0, none⟩) 1 1)))) _ _ (fun _ h => h) hL8 ?_
        clear hK K hb
        try dsimp only [Act.put]
        refine wpAnyH_take (i := 13) (oi := ?oi314) (v := ?vv314) ?hi314 ?hn314 ?hf314 ?hr314 ?hq314 (Or.inl ⟨?hg314, ?hy314⟩) hL8 ?rest314
        case hi314 => (simp only [List.getElem?_toArray, List.getElem?_cons_succ, List.getElem?_cons_zero]; rfl)
        case hn314 => kernel_rfl
        case hf314 => kernel_rfl
        case hr314 => kernel_rfl
        case hg314 => rfl
        case hy314 => (intro w hSw; (try dsimp only at hSw); go_simp; first | done | with_reducible rfl)
        case hq314 => exact fun _ _ _ h => h
        try dsimp only [Act.put]
        refine wpAnyH_done (by kernel_rfl) ?_ _
        try simp only [List.setIfInBounds_toArray, List.set_cons_zero, List.set_cons_succ]
        have hbz := nx (nx hb3 hb4) (hL8.1.1)
        have hbz7 := nx (nx hb3 hb4) (hL7.1.1)
        replace own8 := own8.mono hbz7.size
        go_wp2_with fail
        go_ret
        exact ⟨_, own8, hbz, rfl⟩
      · go_simp
        refine (fun (H : ∀ W : World, (fun (w' : World) => ((Below w4.heap.size w4 w' ∧ w'.cell? ⟨w4.heap.size, 0, none⟩ = some (.string B)) ∧ (w'.cell? ⟨W311.heap.size, 0, none⟩ = some (.slice ob c c) ∧ w'.cell? ⟨W311.heap.size, 1, none⟩ = some (.slice (some ⟨g3, 0, none⟩) r r) ∧ w'.cell? ⟨W311.heap.size, 2, none⟩ = some (.slice (some ⟨w4.heap.size, 0, none⟩) 1 1)))) W → K _ W) => H _ ?hH315) (fun W315 hW315 => ?main315)
        case hH315 =>
          exact ⟨⟨nx hW311.1 (nxAlloc (Below.refl W311.heap.size W311) (.cells #[.slice ob c c, .slice (some ⟨g3, 0, none⟩) r r, .slice (some ⟨w4.heap.size, 0, none⟩) 1 1] 22 (0, 0))), keep_cell (nxAlloc (Below.refl W311.heap.size W311) (.cells #[.slice ob c c, .slice (some ⟨g3, 0, none⟩) r r, .slice (some ⟨w4.heap.size, 0, none⟩) 1 1] 22 (0, 0))) hW311.2⟩, cell_new _ _ _ 0 rfl, cell_new _ _ _ 1 rfl, cell_new _ _ _ 2 rfl⟩
        case main315 =>
        refine hK.out (fun (w' : World) => ((Below w4.heap.size w4 w' ∧ w'.cell? ⟨w4.heap.size, 0, none⟩ = some (.string B)) ∧ (w'.cell? ⟨W311.heap.size, 0, none⟩ = some (.slice ob c c) ∧ w'.cell? ⟨W311.heap.size, 1, none⟩ = some (.slice (some ⟨g3, 0, none⟩) r r) ∧ w'.cell? ⟨W311.heap.size, 2, none⟩ = some (.slice (some ⟨w4.heap.size, 0, none⟩) 1 1)))) _ _ (fun _ h => h.1) hW315 ?_
        clear hK K
        try dsimp only [Act.put]
        refine held_one 1 rfl (by kernel_rfl) (fun K hK => ?_)
        go_simp
        refine (hF _ (HA.out.keep (nx (nx hb3 hb4) (hW315.1.1)))).mono ?_; rintro e W316 ⟨rfl, hb316⟩
        go_wp2_with fail
        have hW316 : (fun (w' : World) => ((Below w4.heap.size w4 w' ∧ w'.cell? ⟨w4.heap.size, 0, none⟩ = some (.string B)) ∧ (w'.cell? ⟨W311.heap.size, 0, none⟩ = some (.slice ob c c) ∧ w'.cell? ⟨W311.heap.size, 1, none⟩ = some (.slice (some ⟨g3, 0, none⟩) r r) ∧ w'.cell? ⟨W311.heap.size, 2, none⟩ = some (.slice (some ⟨w4.heap.size, 0, none⟩) 1 1)))) W316 := ⟨⟨nx hW315.1.1 hb316, keep_cell hb316 hW315.1.2⟩, keep_cell hb316 hW315.2.1, keep_cell hb316 hW315.2.2.1, keep_cell hb316 hW315.2.2.2⟩
        refine hK.out (fun (w' : World) => ((Below w4.heap.size w4 w' ∧ w'.cell? ⟨w4.heap.size, 0, none⟩ = some (.string B)) ∧ (w'.cell? ⟨W311.heap.size, 0, none⟩ = some (.slice ob c c) ∧ w'.cell? ⟨W311.heap.size, 1, none⟩ = some (.slice (some ⟨g3, 0, none⟩) r r) ∧ w'.cell? ⟨W311.heap.size, 2, none⟩ = some (.slice (some ⟨w4.heap.size, 0, none⟩) 1 1)))) _ _ (fun _ h => h) hW316 ?_
        clear hK K
        try dsimp only [Act.put]
        have hbl := hW316.1.1
        have hPt : PartsS W316 W311.heap.size [.slice ob c c, .slice (some ⟨g3, 0, none⟩) r r, .slice (some ⟨w4.heap.size, 0, none⟩) 1 1] [(strs vs).take c, List.replicate r (⟨#[46]⟩ : ByteArray), [B]] := by
          refine ⟨World.block_lt_of_cell? W316 _ hW316.2.1, rfl, fun i hi => ?_⟩
          match i, hi with
          | 0, _ => exact ⟨hW316.2.1, hsrcA _ (nx hb4 hbl)⟩
          | 1, _ => exact ⟨hW316.2.2.1, hsrcB _ (nx hb4 hbl)⟩
          | 2, _ =>
            refine ⟨hW316.2.2.2, ⟨.inr ⟨⟨w4.heap.size, 0, none⟩, 1, rfl, fun j x hj => ?_⟩, _, _, rfl⟩⟩
            match j, hj with
            | 0, hj => simp at hj; subst hj; exact hW316.1.2
            | j + 1, hj => simp at hj
        refine held_one 9 rfl (by kernel_rfl) (fun K hK => ?_)
        go_simp
        refine (concatS_any W311.heap.size 3 _ _ W316 hPt rfl (by omega) (by rw [← HX.out]; omega)).mono ?_; rintro e W5 ⟨v5, own5, hb, rfl⟩
        rw [← HX.out] at own5
        go_wp2_with fail
        have hL5 : (fun (w' : World) => ((Below w4.heap.size w4 w' ∧ w'.cell? ⟨w4.heap.size, 0, none⟩ = some (.string B)) ∧ (w'.cell? ⟨W311.heap.size, 0, none⟩ = some (.slice ob c c) ∧ w'.cell? ⟨W311.heap.size, 1, none⟩ = some (.slice (some ⟨g3, 0, none⟩) r r) ∧ w'.cell? ⟨W311.heap.size, 2, none⟩ = some (.slice (some ⟨w4.heap.size, 0, none⟩) 1 1)))) W5 := ⟨⟨nx hW316.1.1 hb, keep_cell hb hW316.1.2⟩, keep_cell hb hW316.2.1, keep_cell hb hW316.2.2.1, keep_cell hb hW316.2.2.2⟩
        refine hK.out (fun (w' : World) => ((Below w4.heap.size w4 w' ∧ w'.cell? ⟨w4.heap.size, 0, none⟩ = some (.string B)) ∧ (w'.cell? ⟨W311.heap.size, 0, none⟩ = some (.slice ob c c) ∧ w'.cell? ⟨W311.heap.size, 1, none⟩ = some (.slice (some ⟨g3, 0, none⟩) r r) ∧ w'.cell? ⟨W311.heap.size, 2, none⟩ = some (.slice (some ⟨w4.heap.size, 0, none⟩) 1 1)))) _ _ (fun _ h => h) hL5 ?_
        clear hK K hb
        try dsimp only [Act.put]
        refine held_one 10 rfl (by kernel_rfl) (fun K hK => ?_)
        go_simp
        refine (hW v5 _ W5 own5.cells).mono ?_; rintro e W6 ⟨rfl, hb⟩
        go_wp2_with fail
        have hL6 : (fun (w' : World) => ((Below w4.heap.size w4 w' ∧ w'.cell? ⟨w4.heap.size, 0, none⟩ = some (.string B)) ∧ (w'.cell? ⟨W311.heap.size, 0, none⟩ = some (.slice ob c c) ∧ w'.cell? ⟨W311.heap.size, 1, none⟩ = some (.slice (some ⟨g3, 0, none⟩) r r) ∧ w'.cell? ⟨W311.heap.size, 2, none⟩ = some (.slice (some ⟨w4.heap.size, 0, none⟩) 1 1)))) W6 := ⟨⟨nx hL5.1.1 hb, keep_cell hb hL5.1.2⟩, keep_cell hb hL5.2.1, keep_cell hb hL5.2.2.1, keep_cell hb hL5.2.2.2⟩
        refine hK.out (fun (w' : World) => ((Below w4.heap.size w4 w' ∧ w'.cell? ⟨w4.heap.size, 0, none⟩ = some (.string B)) ∧ (w'.cell? ⟨W311.heap.size, 0, none⟩ = some (.slice ob c c) ∧ w'.cell? ⟨W311.heap.size, 1, none⟩ = some (.slice (some ⟨g3, 0, none⟩) r r) ∧ w'.cell? ⟨W311.heap.size, 2, none⟩ = some (.slice (some ⟨w4.heap.size, 0, none⟩) 1 1)))) _ _ (fun _ h => h) hL6 ?_
        clear hK K hb
        try dsimp only [Act.put]
        refine held_one 11 rfl (by kernel_rfl) (fun K hK => ?_)
        go_simp
        refine (hTO _).mono ?_; rintro e W7 ⟨p7, hp7, hb, rfl⟩
        go_wp2_with fail
        have hL7 : (fun (w' : World) => ((Below w4.heap.size w4 w' ∧ w'.cell? ⟨w4.heap.size, 0, none⟩ = some (.string B)) ∧ (w'.cell? ⟨W311.heap.size, 0, none⟩ = some (.slice ob c c) ∧ w'.cell? ⟨W311.heap.size, 1, none⟩ = some (.slice (some ⟨g3, 0, none⟩) r r) ∧ w'.cell? ⟨W311.heap.size, 2, none⟩ = some (.slice (some ⟨w4.heap.size, 0, none⟩) 1 1)))) W7 := ⟨⟨nx hL6.1.1 hb, keep_cell hb hL6.1.2⟩, keep_cell hb hL6.2.1, keep_cell hb hL6.2.2.1, keep_cell hb hL6.2.2.2⟩
        refine hK.out (fun (w' : World) => ((Below w4.heap.size w4 w' ∧ w'.cell? ⟨w4.heap.size, 0, none⟩ = some (.string B)) ∧ (w'.cell? ⟨W311.heap.size, 0, none⟩ = some (.slice ob c c) ∧ w'.cell? ⟨W311.heap.size, 1, none⟩ = some (.slice (some ⟨g3, 0, none⟩) r r) ∧ w'.cell? ⟨W311.heap.size, 2, none⟩ = some (.slice (some ⟨w4.heap.size, 0, none⟩) 1 1)))) _ _ (fun _ h => h) hL7 ?_
        clear hK K hb
        try dsimp only [Act.put]
        refine held_one 12 rfl (by kernel_rfl) (fun K hK => ?_)
        go_simp
        refine (hHg p7 W7 hp7).mono ?_; rintro e W8 ⟨v8, own8, hb, rfl⟩
        go_wp2_with fail
        have hL8 : (fun (w' : World) => ((Below w4.heap.size w4 w' ∧ w'.cell? ⟨w4.heap.size, 0, none⟩ = some (.string B)) ∧ (w'.cell? ⟨W311.heap.size, 0, none⟩ = some (.slice ob c c) ∧ w'.cell? ⟨W311.heap.size, 1, none⟩ = some (.slice (some ⟨g3, 0, none⟩) r r) ∧ w'.cell? ⟨W311.heap.size, 2, none⟩ = some (.slice (some ⟨w4.heap.size, 0, none⟩) 1 1)))) W8 := ⟨⟨nx hL7.1.1 hb, keep_cell hb hL7.1.2⟩, keep_cell hb hL7.2.1, keep_cell hb hL7.2.2.1, keep_cell hb hL7.2.2.2⟩
        refine hK.out (fun (w' : World) => ((Below w4.heap.size w4 w' ∧ w'.cell? ⟨w4.heap.size, 0, none⟩ = some (.string B)) ∧ (w'.cell? ⟨W311.heap.size, 0, none⟩ = some (.slice ob c c) ∧ w'.cell? ⟨W311.heap.size, 1, none⟩ = some (.slice (some ⟨g3, 0, none⟩) r r) ∧ w'.cell? ⟨W311.heap.size, 2, none⟩ = some (.slice (some ⟨w4.heap.size, 0, none⟩) 1 1)))) _ _ (fun _ h => h) hL8 ?_
        clear hK K hb
        try dsimp only [Act.put]
        refine wpAnyH_take (i := 13) (oi := ?oi317) (v := ?vv317) ?hi317 ?hn317 ?hf317 ?hr317 ?hq317 (Or.inl ⟨?hg317, ?hy317⟩) hL8 ?rest317
        case hi317 => (simp only [List.getElem?_toArray, List.getElem?_cons_succ, List.getElem?_cons_zero]; rfl)
        case hn317 => kernel_rfl
        case hf317 => kernel_rfl
        case hr317 => kernel_rfl
        case hg317 => rfl
        case hy317 => (intro w hSw; (try dsimp only at hSw); go_simp; first | done | with_reducible rfl)
        case hq317 => exact fun _ _ _ h => h
        try dsimp only [Act.put]
        refine wpAnyH_done (by kernel_rfl) ?_ _
        try simp only [List.setIfInBounds_toArray, List.set_cons_zero, List.set_cons_succ]
        have hbz := nx (nx hb3 hb4) (hL8.1.1)
        have hbz7 := nx (nx hb3 hb4) (hL7.1.1)
        replace own8 := own8.mono hbz7.size
        go_wp2_with fail
        go_ret
        exact ⟨_, own8, hbz, rfl⟩
  · obtain ⟨g2, rfl⟩ : ∃ g2, ob = some ⟨g2, 0, none⟩ := by
      rcases HB.out with ⟨h0, h1⟩ | ⟨g, cap', h0, h1⟩
      · injection h0 with e1 e2 e3; omega
      · injection h0 with e1 e2 e3; exact ⟨g, e1⟩
    have hd6 : bcap - c ≠ 0 := by omega
    have hd7 : ¬ (bcap = c) := by omega
    have hHV := hHU (some ⟨g2, c, none⟩) (bcap - c) w3 (fun i hi => by
      rw [hsl] at hi
      obtain ⟨g, e, _, hg, hcell⟩ := HD.out (c + i) (by omega)
      obtain rfl : g2 = g := by simpa using e
      refine ⟨g2, c, rfl, Nat.lt_of_lt_of_le hg hb3.size, ?_⟩
      refine (hb3.cell (p := ⟨g2, c + i, none⟩) hg).trans ?_
      rw [hcell]
      congr 2
      simp [strs, List.getD_eq_getElem?_getD])
    clear hHU hsl hsd
    go_wp2_with fail
    refine hHV.mono ?_; rintro e w4 ⟨rfl, hb4⟩
    clear hHV
    try go_wp2_with fail
    refine wp_region_held_drew (S := fun (w' : World) => Below w4.heap.size w4 w') (by kernel_rfl) (Below.refl w4.heap.size w4).drew (fun hH0 => ?_)
    refine wpAnyH_take (i := 0) (oi := ?oi318) (v := ?vv318) ?hi318 ?hn318 ?hf318 ?hr318 ?hq318 (Or.inl ⟨?hg318, ?hy318⟩) hH0 ?rest318
    case hi318 => (simp only [List.getElem?_toArray, List.getElem?_cons_zero]; rfl)
    case hn318 => kernel_rfl
    case hf318 => kernel_rfl
    case hr318 => kernel_rfl
    case hg318 => rfl
    case hy318 => (intro w hSw; (try dsimp only at hSw); go_simp; first | done | with_reducible rfl)
    case hq318 => exact fun _ _ _ h => h
    try dsimp only [Act.put]
    refine wpAnyH_take (i := 2) (oi := ?oi319) (v := ?vv319) ?hi319 ?hn319 ?hf319 ?hr319 ?hq319 (Or.inl ⟨?hg319, ?hy319⟩) hH0 ?rest319
    case hi319 => (simp only [List.getElem?_toArray, List.getElem?_cons_succ, List.getElem?_cons_zero]; rfl)
    case hn319 => kernel_rfl
    case hf319 => kernel_rfl
    case hr319 => kernel_rfl
    case hg319 => rfl
    case hy319 => (intro w hSw; (try dsimp only at hSw); go_simp; first | done | with_reducible rfl)
    case hq319 => exact fun _ _ _ h => h
    try dsimp only [Act.put]
    refine wpAnyH_take (i := 3) (oi := ?oi320) (v := ?vv320) ?hi320 ?hn320 ?hf320 ?hr320 ?hq320 (Or.inl ⟨?hg320, ?hy320⟩) hH0 ?rest320
    case hi320 => (simp only [List.getElem?_toArray, List.getElem?_cons_succ, List.getElem?_cons_zero]; rfl)
    case hn320 => kernel_rfl
    case hf320 => kernel_rfl
    case hr320 => kernel_rfl
    case hg320 => rfl
    case hy320 => (intro w hSw; (try dsimp only at hSw); go_simp; first | done | with_reducible rfl)
    case hq320 => exact fun _ _ _ h => h
    try dsimp only [Act.put]
    refine wpAnyH_take (i := 4) (oi := ?oi321) (v := ?vv321) ?hi321 ?hn321 ?hf321 ?hr321 ?hq321 (Or.inl ⟨?hg321, ?hy321⟩) hH0 ?rest321
    case hi321 => (simp only [List.getElem?_toArray, List.getElem?_cons_succ, List.getElem?_cons_zero]; rfl)
    case hn321 => kernel_rfl
    case hf321 => kernel_rfl
    case hr321 => kernel_rfl
    case hg321 => rfl
    case hy321 => (intro w hSw; (try dsimp only at hSw); go_simp; first | done | with_reducible rfl)
    case hq321 => exact fun _ _ _ h => h
    try dsimp only [Act.put]
    refine wpAnyH_take (i := 5) (oi := ?oi322) (v := ?vv322) ?hi322 ?hn322 ?hf322 ?hr322 ?hq322 (Or.inl ⟨?hg322, ?hy322⟩) hH0 ?rest322
    case hi322 => (simp only [List.getElem?_toArray, List.getElem?_cons_succ, List.getElem?_cons_zero]; rfl)
    case hn322 => kernel_rfl
    case hf322 => kernel_rfl
    case hr322 => kernel_rfl
    case hg322 => rfl
    case hy322 => (intro w hSw; (try dsimp only at hSw); go_simp; first | done | with_reducible rfl)
    case hq322 => exact fun _ _ _ h => h
    try dsimp only [Act.put]
    refine wpAnyH_take (i := 6) (oi := ?oi323) (v := ?vv323) ?hi323 ?hn323 ?hf323 ?hr323 ?hq323 (Or.inl ⟨?hg323, ?hy323⟩) hH0 ?rest323
    case hi323 => (simp only [List.getElem?_toArray, List.getElem?_cons_succ, List.getElem?_cons_zero]; rfl)
    case hn323 => kernel_rfl
    case hf323 => kernel_rfl
    case hr323 => kernel_rfl
    case hg323 => rfl
    case hy323 => (intro w hSw; (try dsimp only at hSw); go_simp; first | done | with_reducible rfl)
    case hq323 => exact fun _ _ _ h => h
    try dsimp only [Act.put]
    refine held_two 1 7 rfl rfl (by kernel_rfl) (fun K hK => ?_) (fun K hK => ?_)
    · go_simp
      refine (hF _ (HA.out.keep (nx (nx hb3 hb4) (hH0)))).mono ?_; rintro e W324 ⟨rfl, hb324⟩
      go_wp2_with fail
      have hW324 : (fun (w' : World) => Below w4.heap.size w4 w') W324 := nx hH0 hb324
      refine hK.out (fun (w' : World) => Below w4.heap.size w4 w') _ _ (fun _ h => h) hW324 ?_
      clear hK K
      try dsimp only [Act.put]
      refine held_one 7 rfl (by kernel_rfl) (fun K hK => ?_)
      go_simp
      refine (fun (H : ∀ W : World, (fun (w' : World) => (Below w4.heap.size w4 w' ∧ w'.cell? ⟨W324.heap.size, 0, none⟩ = some (.string B))) W → K _ W) => H _ ?hH325) (fun W325 hW325 => ?main325)
      case hH325 =>
        exact ⟨nx hW324 (nxAlloc (Below.refl W324.heap.size W324) (.cells #[.string B] 9 (0, 0))), cell_new _ _ _ 0 rfl⟩
      case main325 =>
      refine hK.out (fun (w' : World) => (Below w4.heap.size w4 w' ∧ w'.cell? ⟨W324.heap.size, 0, none⟩ = some (.string B))) _ _ (fun _ h => h.1) hW325 ?_
      clear hK K
      try dsimp only [Act.put]
      refine held_one 8 rfl (by kernel_rfl) (fun K hK => ?_)
      go_simp
      refine (fun (H : ∀ W : World, (fun (w' : World) => ((Below w4.heap.size w4 w' ∧ w'.cell? ⟨W324.heap.size, 0, none⟩ = some (.string B)) ∧ (w'.cell? ⟨W325.heap.size, 0, none⟩ = some (.slice (some ⟨g2, 0, none⟩) c bcap) ∧ w'.cell? ⟨W325.heap.size, 1, none⟩ = some (.slice (some ⟨g3, 0, none⟩) r r) ∧ w'.cell? ⟨W325.heap.size, 2, none⟩ = some (.slice (some ⟨W324.heap.size, 0, none⟩) 1 1)))) W → K _ W) => H _ ?hH326) (fun W326 hW326 => ?main326)
      case hH326 =>
        exact ⟨⟨nx hW325.1 (nxAlloc (Below.refl W325.heap.size W325) (.cells #[.slice (some ⟨g2, 0, none⟩) c bcap, .slice (some ⟨g3, 0, none⟩) r r, .slice (some ⟨W324.heap.size, 0, none⟩) 1 1] 22 (0, 0))), keep_cell (nxAlloc (Below.refl W325.heap.size W325) (.cells #[.slice (some ⟨g2, 0, none⟩) c bcap, .slice (some ⟨g3, 0, none⟩) r r, .slice (some ⟨W324.heap.size, 0, none⟩) 1 1] 22 (0, 0))) hW325.2⟩, cell_new _ _ _ 0 rfl, cell_new _ _ _ 1 rfl, cell_new _ _ _ 2 rfl⟩
      case main326 =>
      refine hK.out (fun (w' : World) => ((Below w4.heap.size w4 w' ∧ w'.cell? ⟨W324.heap.size, 0, none⟩ = some (.string B)) ∧ (w'.cell? ⟨W325.heap.size, 0, none⟩ = some (.slice (some ⟨g2, 0, none⟩) c bcap) ∧ w'.cell? ⟨W325.heap.size, 1, none⟩ = some (.slice (some ⟨g3, 0, none⟩) r r) ∧ w'.cell? ⟨W325.heap.size, 2, none⟩ = some (.slice (some ⟨W324.heap.size, 0, none⟩) 1 1)))) _ _ (fun _ h => h.1) hW326 ?_
      clear hK K
      try dsimp only [Act.put]
      have hbl := hW326.1.1
      have hPt : PartsS W326 W325.heap.size [.slice (some ⟨g2, 0, none⟩) c bcap, .slice (some ⟨g3, 0, none⟩) r r, .slice (some ⟨W324.heap.size, 0, none⟩) 1 1] [(strs vs).take c, List.replicate r (⟨#[46]⟩ : ByteArray), [B]] := by
        refine ⟨World.block_lt_of_cell? W326 _ hW326.2.1, rfl, fun i hi => ?_⟩
        match i, hi with
        | 0, _ => exact ⟨hW326.2.1, hsrcA _ (nx hb4 hbl)⟩
        | 1, _ => exact ⟨hW326.2.2.1, hsrcB _ (nx hb4 hbl)⟩
        | 2, _ =>
          refine ⟨hW326.2.2.2, ⟨.inr ⟨⟨W324.heap.size, 0, none⟩, 1, rfl, fun j x hj => ?_⟩, _, _, rfl⟩⟩
          match j, hj with
          | 0, hj => simp at hj; subst hj; exact hW326.1.2
          | j + 1, hj => simp at hj
      refine held_one 9 rfl (by kernel_rfl) (fun K hK => ?_)
      go_simp
      refine (concatS_any W325.heap.size 3 _ _ W326 hPt rfl (by omega) (by rw [← HX.out]; omega)).mono ?_; rintro e W5 ⟨v5, own5, hb, rfl⟩
      rw [← HX.out] at own5
      go_wp2_with fail
      have hL5 : (fun (w' : World) => ((Below w4.heap.size w4 w' ∧ w'.cell? ⟨W324.heap.size, 0, none⟩ = some (.string B)) ∧ (w'.cell? ⟨W325.heap.size, 0, none⟩ = some (.slice (some ⟨g2, 0, none⟩) c bcap) ∧ w'.cell? ⟨W325.heap.size, 1, none⟩ = some (.slice (some ⟨g3, 0, none⟩) r r) ∧ w'.cell? ⟨W325.heap.size, 2, none⟩ = some (.slice (some ⟨W324.heap.size, 0, none⟩) 1 1)))) W5 := ⟨⟨nx hW326.1.1 hb, keep_cell hb hW326.1.2⟩, keep_cell hb hW326.2.1, keep_cell hb hW326.2.2.1, keep_cell hb hW326.2.2.2⟩
      refine hK.out (fun (w' : World) => ((Below w4.heap.size w4 w' ∧ w'.cell? ⟨W324.heap.size, 0, none⟩ = some (.string B)) ∧ (w'.cell? ⟨W325.heap.size, 0, none⟩ = some (.slice (some ⟨g2, 0, none⟩) c bcap) ∧ w'.cell? ⟨W325.heap.size, 1, none⟩ = some (.slice (some ⟨g3, 0, none⟩) r r) ∧ w'.cell? ⟨W325.heap.size, 2, none⟩ = some (.slice (some ⟨W324.heap.size, 0, none⟩) 1 1)))) _ _ (fun _ h => h) hL5 ?_
      clear hK K hb
      try dsimp only [Act.put]
      refine held_one 10 rfl (by kernel_rfl) (fun K hK => ?_)
      go_simp
      refine (hW v5 _ W5 own5.cells).mono ?_; rintro e W6 ⟨rfl, hb⟩
      go_wp2_with fail
      have hL6 : (fun (w' : World) => ((Below w4.heap.size w4 w' ∧ w'.cell? ⟨W324.heap.size, 0, none⟩ = some (.string B)) ∧ (w'.cell? ⟨W325.heap.size, 0, none⟩ = some (.slice (some ⟨g2, 0, none⟩) c bcap) ∧ w'.cell? ⟨W325.heap.size, 1, none⟩ = some (.slice (some ⟨g3, 0, none⟩) r r) ∧ w'.cell? ⟨W325.heap.size, 2, none⟩ = some (.slice (some ⟨W324.heap.size, 0, none⟩) 1 1)))) W6 := ⟨⟨nx hL5.1.1 hb, keep_cell hb hL5.1.2⟩, keep_cell hb hL5.2.1, keep_cell hb hL5.2.2.1, keep_cell hb hL5.2.2.2⟩
      refine hK.out (fun (w' : World) => ((Below w4.heap.size w4 w' ∧ w'.cell? ⟨W324.heap.size, 0, none⟩ = some (.string B)) ∧ (w'.cell? ⟨W325.heap.size, 0, none⟩ = some (.slice (some ⟨g2, 0, none⟩) c bcap) ∧ w'.cell? ⟨W325.heap.size, 1, none⟩ = some (.slice (some ⟨g3, 0, none⟩) r r) ∧ w'.cell? ⟨W325.heap.size, 2, none⟩ = some (.slice (some ⟨W324.heap.size, 0, none⟩) 1 1)))) _ _ (fun _ h => h) hL6 ?_
      clear hK K hb
      try dsimp only [Act.put]
      refine held_one 11 rfl (by kernel_rfl) (fun K hK => ?_)
      go_simp
      refine (hTO _).mono ?_; rintro e W7 ⟨p7, hp7, hb, rfl⟩
      go_wp2_with fail
      have hL7 : (fun (w' : World) => ((Below w4.heap.size w4 w' ∧ w'.cell? ⟨W324.heap.size, 0, none⟩ = some (.string B)) ∧ (w'.cell? ⟨W325.heap.size, 0, none⟩ = some (.slice (some ⟨g2, 0, none⟩) c bcap) ∧ w'.cell? ⟨W325.heap.size, 1, none⟩ = some (.slice (some ⟨g3, 0, none⟩) r r) ∧ w'.cell? ⟨W325.heap.size, 2, none⟩ = some (.slice (some ⟨W324.heap.size, 0, none⟩) 1 1)))) W7 := ⟨⟨nx hL6.1.1 hb, keep_cell hb hL6.1.2⟩, keep_cell hb hL6.2.1, keep_cell hb hL6.2.2.1, keep_cell hb hL6.2.2.2⟩
      refine hK.out (fun (w' : World) => ((Below w4.heap.size w4 w' ∧ w'.cell? ⟨W324.heap.size, 0, none⟩ = some (.string B)) ∧ (w'.cell? ⟨W325.heap.size, 0, none⟩ = some (.slice (some ⟨g2, 0, none⟩) c bcap) ∧ w'.cell? ⟨W325.heap.size, 1, none⟩ = some (.slice (some ⟨g3, 0, none⟩) r r) ∧ w'.cell? ⟨W325.heap.size, 2, none⟩ = some (.slice (some ⟨W324.heap.size, 0, none⟩) 1 1)))) _ _ (fun _ h => h) hL7 ?_
      clear hK K hb
      try dsimp only [Act.put]
      refine held_one 12 rfl (by kernel_rfl) (fun K hK => ?_)
      go_simp
      refine (hHg p7 W7 hp7).mono ?_; rintro e W8 ⟨v8, own8, hb, rfl⟩
      go_wp2_with fail
      have hL8 : (fun (w' : World) => ((Below w4.heap.size w4 w' ∧ w'.cell? ⟨W324.heap.size, 0, none⟩ = some (.string B)) ∧ (w'.cell? ⟨W325.heap.size, 0, none⟩ = some (.slice (some ⟨g2, 0, none⟩) c bcap) ∧ w'.cell? ⟨W325.heap.size, 1, none⟩ = some (.slice (some ⟨g3, 0, none⟩) r r) ∧ w'.cell? ⟨W325.heap.size, 2, none⟩ = some (.slice (some ⟨W324.heap.size, 0, none⟩) 1 1)))) W8 := ⟨⟨nx hL7.1.1 hb, keep_cell hb hL7.1.2⟩, keep_cell hb hL7.2.1, keep_cell hb hL7.2.2.1, keep_cell hb hL7.2.2.2⟩
      refine hK.out (fun (w' : World) => ((Below w4.heap.size w4 w' ∧ w'.cell? ⟨W324.heap.size, 0, none⟩ = some (.string B)) ∧ (w'.cell? ⟨W325.heap.size, 0, none⟩ = some (.slice (some ⟨g2, 0, none⟩) c bcap) ∧ w'.cell? ⟨W325.heap.size, 1, none⟩ = some (.slice (some ⟨g3, 0, none⟩) r r) ∧ w'.cell? ⟨W325.heap.size, 2, none⟩ = some (.slice (some ⟨W324.heap.size, 0, none⟩) 1 1)))) _ _ (fun _ h => h) hL8 ?_
      clear hK K hb
      try dsimp only [Act.put]
      refine wpAnyH_take (i := 13) (oi := ?oi327) (v := ?vv327) ?hi327 ?hn327 ?hf327 ?hr327 ?hq327 (Or.inl ⟨?hg327, ?hy327⟩) hL8 ?rest327
      case hi327 => (simp only [List.getElem?_toArray, List.getElem?_cons_succ, List.getElem?_cons_zero]; rfl)
      case hn327 => kernel_rfl
      case hf327 => kernel_rfl
      case hr327 => kernel_rfl
      case hg327 => rfl
      case hy327 => (intro w hSw; (try dsimp only at hSw); go_simp; first | done | with_reducible rfl)
      case hq327 => exact fun _ _ _ h => h
      try dsimp only [Act.put]
      refine wpAnyH_done (by kernel_rfl) ?_ _
      try simp only [List.setIfInBounds_toArray, List.set_cons_zero, List.set_cons_succ]
      have hbz := nx (nx hb3 hb4) (hL8.1.1)
      have hbz7 := nx (nx hb3 hb4) (hL7.1.1)
      replace own8 := own8.mono hbz7.size
      go_wp2_with fail
      go_ret
      exact ⟨_, own8, hbz, rfl⟩
    · go_simp
      refine (fun (H : ∀ W : World, (fun (w' : World) => (Below w4.heap.size w4 w' ∧ w'.cell? ⟨w4.heap.size, 0, none⟩ = some (.string B))) W → K _ W) => H _ ?hH328) (fun W328 hW328 => ?main328)
      case hH328 =>
        exact ⟨nx hH0 (nxAlloc (Below.refl w4.drew.heap.size w4.drew) (.cells #[.string B] 9 (0, 0))), cell_new _ _ _ 0 rfl⟩
      case main328 =>
      refine hK.out (fun (w' : World) => (Below w4.heap.size w4 w' ∧ w'.cell? ⟨w4.heap.size, 0, none⟩ = some (.string B))) _ _ (fun _ h => h.1) hW328 ?_
      clear hK K
      try dsimp only [Act.put]
      refine held_two 1 8 rfl rfl (by kernel_rfl) (fun K hK => ?_) (fun K hK => ?_)
      · go_simp
        refine (hF _ (HA.out.keep (nx (nx hb3 hb4) (hW328.1)))).mono ?_; rintro e W329 ⟨rfl, hb329⟩
        go_wp2_with fail
        have hW329 : (fun (w' : World) => (Below w4.heap.size w4 w' ∧ w'.cell? ⟨w4.heap.size, 0, none⟩ = some (.string B))) W329 := ⟨nx hW328.1 hb329, keep_cell hb329 hW328.2⟩
        refine hK.out (fun (w' : World) => (Below w4.heap.size w4 w' ∧ w'.cell? ⟨w4.heap.size, 0, none⟩ = some (.string B))) _ _ (fun _ h => h) hW329 ?_
        clear hK K
        try dsimp only [Act.put]
        refine held_one 8 rfl (by kernel_rfl) (fun K hK => ?_)
        go_simp
        refine (fun (H : ∀ W : World, (fun (w' : World) => ((Below w4.heap.size w4 w' ∧ w'.cell? ⟨w4.heap.size, 0, none⟩ = some (.string B)) ∧ (w'.cell? ⟨W329.heap.size, 0, none⟩ = some (.slice (some ⟨g2, 0, none⟩) c bcap) ∧ w'.cell? ⟨W329.heap.size, 1, none⟩ = some (.slice (some ⟨g3, 0, none⟩) r r) ∧ w'.cell? ⟨W329.heap.size, 2, none⟩ = some (.slice (some ⟨w4.heap.size, 0, none⟩) 1 1)))) W → K _ W) => H _ ?hH330) (fun W330 hW330 => ?main330)
        case hH330 =>
          exact ⟨⟨nx hW329.1 (nxAlloc (Below.refl W329.heap.size W329) (.cells #[.slice (some ⟨g2, 0, none⟩) c bcap, .slice (some ⟨g3, 0, none⟩) r r, .slice (some ⟨w4.heap.size, 0, none⟩) 1 1] 22 (0, 0))), keep_cell (nxAlloc (Below.refl W329.heap.size W329) (.cells #[.slice (some ⟨g2, 0, none⟩) c bcap, .slice (some ⟨g3, 0, none⟩) r r, .slice (some ⟨w4.heap.size, 0, none⟩) 1 1] 22 (0, 0))) hW329.2⟩, cell_new _ _ _ 0 rfl, cell_new _ _ _ 1 rfl, cell_new _ _ _ 2 rfl⟩
        case main330 =>
        refine hK.out (fun (w' : World) => ((Below w4.heap.size w4 w' ∧ w'.cell? ⟨w4.heap.size, 0, none⟩ = some (.string B)) ∧ (w'.cell? ⟨W329.heap.size, 0, none⟩ = some (.slice (some ⟨g2, 0, none⟩) c bcap) ∧ w'.cell? ⟨W329.heap.size, 1, none⟩ = some (.slice (some ⟨g3, 0, none⟩) r r) ∧ w'.cell? ⟨W329.heap.size, 2, none⟩ = some (.slice (some ⟨w4.heap.size, 0, none⟩) 1 1)))) _ _ (fun _ h => h.1) hW330 ?_
        clear hK K
        try dsimp only [Act.put]
        have hbl := hW330.1.1
        have hPt : PartsS W330 W329.heap.size [.slice (some ⟨g2, 0, none⟩) c bcap, .slice (some ⟨g3, 0, none⟩) r r, .slice (some ⟨w4.heap.size, 0, none⟩) 1 1] [(strs vs).take c, List.replicate r (⟨#[46]⟩ : ByteArray), [B]] := by
          refine ⟨World.block_lt_of_cell? W330 _ hW330.2.1, rfl, fun i hi => ?_⟩
          match i, hi with
          | 0, _ => exact ⟨hW330.2.1, hsrcA _ (nx hb4 hbl)⟩
          | 1, _ => exact ⟨hW330.2.2.1, hsrcB _ (nx hb4 hbl)⟩
          | 2, _ =>
            refine ⟨hW330.2.2.2, ⟨.inr ⟨⟨w4.heap.size, 0, none⟩, 1, rfl, fun j x hj => ?_⟩, _, _, rfl⟩⟩
            match j, hj with
            | 0, hj => simp at hj; subst hj; exact hW330.1.2
            | j + 1, hj => simp at hj
        refine held_one 9 rfl (by kernel_rfl) (fun K hK => ?_)
        go_simp
        refine (concatS_any W329.heap.size 3 _ _ W330 hPt rfl (by omega) (by rw [← HX.out]; omega)).mono ?_; rintro e W5 ⟨v5, own5, hb, rfl⟩
        rw [← HX.out] at own5
        go_wp2_with fail
        have hL5 : (fun (w' : World) => ((Below w4.heap.size w4 w' ∧ w'.cell? ⟨w4.heap.size, 0, none⟩ = some (.string B)) ∧ (w'.cell? ⟨W329.heap.size, 0, none⟩ = some (.slice (some ⟨g2, 0, none⟩) c bcap) ∧ w'.cell? ⟨W329.heap.size, 1, none⟩ = some (.slice (some ⟨g3, 0, none⟩) r r) ∧ w'.cell? ⟨W329.heap.size, 2, none⟩ = some (.slice (some ⟨w4.heap.size, 0, none⟩) 1 1)))) W5 := ⟨⟨nx hW330.1.1 hb, keep_cell hb hW330.1.2⟩, keep_cell hb hW330.2.1, keep_cell hb hW330.2.2.1, keep_cell hb hW330.2.2.2⟩
        refine hK.out (fun (w' : World) => ((Below w4.heap.size w4 w' ∧ w'.cell? ⟨w4.heap.size, 0, none⟩ = some (.string B)) ∧ (w'.cell? ⟨W329.heap.size, 0, none⟩ = some (.slice (some ⟨g2, 0, none⟩) c bcap) ∧ w'.cell? ⟨W329.heap.size, 1, none⟩ = some (.slice (some ⟨g3, 0, none⟩) r r) ∧ w'.cell? ⟨W329.heap.size, 2, none⟩ = some (.slice (some ⟨w4.heap.size, 0, none⟩) 1 1)))) _ _ (fun _ h => h) hL5 ?_
        clear hK K hb
        try dsimp only [Act.put]
        refine held_one 10 rfl (by kernel_rfl) (fun K hK => ?_)
        go_simp
        refine (hW v5 _ W5 own5.cells).mono ?_; rintro e W6 ⟨rfl, hb⟩
        go_wp2_with fail
        have hL6 : (fun (w' : World) => ((Below w4.heap.size w4 w' ∧ w'.cell? ⟨w4.heap.size, 0, none⟩ = some (.string B)) ∧ (w'.cell? ⟨W329.heap.size, 0, none⟩ = some (.slice (some ⟨g2, 0, none⟩) c bcap) ∧ w'.cell? ⟨W329.heap.size, 1, none⟩ = some (.slice (some ⟨g3, 0, none⟩) r r) ∧ w'.cell? ⟨W329.heap.size, 2, none⟩ = some (.slice (some ⟨w4.heap.size, 0, none⟩) 1 1)))) W6 := ⟨⟨nx hL5.1.1 hb, keep_cell hb hL5.1.2⟩, keep_cell hb hL5.2.1, keep_cell hb hL5.2.2.1, keep_cell hb hL5.2.2.2⟩
        refine hK.out (fun (w' : World) => ((Below w4.heap.size w4 w' ∧ w'.cell? ⟨w4.heap.size, 0, none⟩ = some (.string B)) ∧ (w'.cell? ⟨W329.heap.size, 0, none⟩ = some (.slice (some ⟨g2, 0, none⟩) c bcap) ∧ w'.cell? ⟨W329.heap.size, 1, none⟩ = some (.slice (some ⟨g3, 0, none⟩) r r) ∧ w'.cell? ⟨W329.heap.size, 2, none⟩ = some (.slice (some ⟨w4.heap.size, 0, none⟩) 1 1)))) _ _ (fun _ h => h) hL6 ?_
        clear hK K hb
        try dsimp only [Act.put]
        refine held_one 11 rfl (by kernel_rfl) (fun K hK => ?_)
        go_simp
        refine (hTO _).mono ?_; rintro e W7 ⟨p7, hp7, hb, rfl⟩
        go_wp2_with fail
        have hL7 : (fun (w' : World) => ((Below w4.heap.size w4 w' ∧ w'.cell? ⟨w4.heap.size, 0, none⟩ = some (.string B)) ∧ (w'.cell? ⟨W329.heap.size, 0, none⟩ = some (.slice (some ⟨g2, 0, none⟩) c bcap) ∧ w'.cell? ⟨W329.heap.size, 1, none⟩ = some (.slice (some ⟨g3, 0, none⟩) r r) ∧ w'.cell? ⟨W329.heap.size, 2, none⟩ = some (.slice (some ⟨w4.heap.size, 0, none⟩) 1 1)))) W7 := ⟨⟨nx hL6.1.1 hb, keep_cell hb hL6.1.2⟩, keep_cell hb hL6.2.1, keep_cell hb hL6.2.2.1, keep_cell hb hL6.2.2.2⟩
        refine hK.out (fun (w' : World) => ((Below w4.heap.size w4 w' ∧ w'.cell? ⟨w4.heap.size, 0, none⟩ = some (.string B)) ∧ (w'.cell? ⟨W329.heap.size, 0, none⟩ = some (.slice (some ⟨g2, 0, none⟩) c bcap) ∧ w'.cell? ⟨W329.heap.size, 1, none⟩ = some (.slice (some ⟨g3, 0, none⟩) r r) ∧ w'.cell? ⟨W329.heap.size, 2, none⟩ = some (.slice (some ⟨w4.heap.size, 0, none⟩) 1 1)))) _ _ (fun _ h => h) hL7 ?_
        clear hK K hb
        try dsimp only [Act.put]
        refine held_one 12 rfl (by kernel_rfl) (fun K hK => ?_)
        go_simp
        refine (hHg p7 W7 hp7).mono ?_; rintro e W8 ⟨v8, own8, hb, rfl⟩
        go_wp2_with fail
        have hL8 : (fun (w' : World) => ((Below w4.heap.size w4 w' ∧ w'.cell? ⟨w4.heap.size, 0, none⟩ = some (.string B)) ∧ (w'.cell? ⟨W329.heap.size, 0, none⟩ = some (.slice (some ⟨g2, 0, none⟩) c bcap) ∧ w'.cell? ⟨W329.heap.size, 1, none⟩ = some (.slice (some ⟨g3, 0, none⟩) r r) ∧ w'.cell? ⟨W329.heap.size, 2, none⟩ = some (.slice (some ⟨w4.heap.size, 0, none⟩) 1 1)))) W8 := ⟨⟨nx hL7.1.1 hb, keep_cell hb hL7.1.2⟩, keep_cell hb hL7.2.1, keep_cell hb hL7.2.2.1, keep_cell hb hL7.2.2.2⟩
        refine hK.out (fun (w' : World) => ((Below w4.heap.size w4 w' ∧ w'.cell? ⟨w4.heap.size, 0, none⟩ = some (.string B)) ∧ (w'.cell? ⟨W329.heap.size, 0, none⟩ = some (.slice (some ⟨g2, 0, none⟩) c bcap) ∧ w'.cell? ⟨W329.heap.size, 1, none⟩ = some (.slice (some ⟨g3, 0, none⟩) r r) ∧ w'.cell? ⟨W329.heap.size, 2, none⟩ = some (.slice (some ⟨w4.heap.size, 0, none⟩) 1 1)))) _ _ (fun _ h => h) hL8 ?_
        clear hK K hb
        try dsimp only [Act.put]
        refine wpAnyH_take (i := 13) (oi := ?oi331) (v := ?vv331) ?hi331 ?hn331 ?hf331 ?hr331 ?hq331 (Or.inl ⟨?hg331, ?hy331⟩) hL8 ?rest331
        case hi331 => (simp only [List.getElem?_toArray, List.getElem?_cons_succ, List.getElem?_cons_zero]; rfl)
        case hn331 => kernel_rfl
        case hf331 => kernel_rfl
        case hr331 => kernel_rfl
        case hg331 => rfl
        case hy331 => (intro w hSw; (try dsimp only at hSw); go_simp; first | done | with_reducible rfl)
        case hq331 => exact fun _ _ _ h => h
        try dsimp only [Act.put]
        refine wpAnyH_done (by kernel_rfl) ?_ _
        try simp only [List.setIfInBounds_toArray, List.set_cons_zero, List.set_cons_succ]
        have hbz := nx (nx hb3 hb4) (hL8.1.1)
        have hbz7 := nx (nx hb3 hb4) (hL7.1.1)
        replace own8 := own8.mono hbz7.size
        go_wp2_with fail
        go_ret
        exact ⟨_, own8, hbz, rfl⟩
      · go_simp
        refine (fun (H : ∀ W : World, (fun (w' : World) => ((Below w4.heap.size w4 w' ∧ w'.cell? ⟨w4.heap.size, 0, none⟩ = some (.string B)) ∧ (w'.cell? ⟨W328.heap.size, 0, none⟩ = some (.slice (some ⟨g2, 0, none⟩) c bcap) ∧ w'.cell? ⟨W328.heap.size, 1, none⟩ = some (.slice (some ⟨g3, 0, none⟩) r r) ∧ w'.cell? ⟨W328.heap.size, 2, none⟩ = some (.slice (some ⟨w4.heap.size, 0, none⟩) 1 1)))) W → K _ W) => H _ ?hH332) (fun W332 hW332 => ?main332)
        case hH332 =>
          exact ⟨⟨nx hW328.1 (nxAlloc (Below.refl W328.heap.size W328) (.cells #[.slice (some ⟨g2, 0, none⟩) c bcap, .slice (some ⟨g3, 0, none⟩) r r, .slice (some ⟨w4.heap.size, 0, none⟩) 1 1] 22 (0, 0))), keep_cell (nxAlloc (Below.refl W328.heap.size W328) (.cells #[.slice (some ⟨g2, 0, none⟩) c bcap, .slice (some ⟨g3, 0, none⟩) r r, .slice (some ⟨w4.heap.size, 0, none⟩) 1 1] 22 (0, 0))) hW328.2⟩, cell_new _ _ _ 0 rfl, cell_new _ _ _ 1 rfl, cell_new _ _ _ 2 rfl⟩
        case main332 =>
        refine hK.out (fun (w' : World) => ((Below w4.heap.size w4 w' ∧ w'.cell? ⟨w4.heap.size, 0, none⟩ = some (.string B)) ∧ (w'.cell? ⟨W328.heap.size, 0, none⟩ = some (.slice (some ⟨g2, 0, none⟩) c bcap) ∧ w'.cell? ⟨W328.heap.size, 1, none⟩ = some (.slice (some ⟨g3, 0, none⟩) r r) ∧ w'.cell? ⟨W328.heap.size, 2, none⟩ = some (.slice (some ⟨w4.heap.size, 0, none⟩) 1 1)))) _ _ (fun _ h => h.1) hW332 ?_
        clear hK K
        try dsimp only [Act.put]
        refine held_one 1 rfl (by kernel_rfl) (fun K hK => ?_)
        go_simp
        refine (hF _ (HA.out.keep (nx (nx hb3 hb4) (hW332.1.1)))).mono ?_; rintro e W333 ⟨rfl, hb333⟩
        go_wp2_with fail
        have hW333 : (fun (w' : World) => ((Below w4.heap.size w4 w' ∧ w'.cell? ⟨w4.heap.size, 0, none⟩ = some (.string B)) ∧ (w'.cell? ⟨W328.heap.size, 0, none⟩ = some (.slice (some ⟨g2, 0, none⟩) c bcap) ∧ w'.cell? ⟨W328.heap.size, 1, none⟩ = some (.slice (some ⟨g3, 0, none⟩) r r) ∧ w'.cell? ⟨W328.heap.size, 2, none⟩ = some (.slice (some ⟨w4.heap.size, 0, none⟩) 1 1)))) W333 := ⟨⟨nx hW332.1.1 hb333, keep_cell hb333 hW332.1.2⟩, keep_cell hb333 hW332.2.1, keep_cell hb333 hW332.2.2.1, keep_cell hb333 hW332.2.2.2⟩
        refine hK.out (fun (w' : World) => ((Below w4.heap.size w4 w' ∧ w'.cell? ⟨w4.heap.size, 0, none⟩ = some (.string B)) ∧ (w'.cell? ⟨W328.heap.size, 0, none⟩ = some (.slice (some ⟨g2, 0, none⟩) c bcap) ∧ w'.cell? ⟨W328.heap.size, 1, none⟩ = some (.slice (some ⟨g3, 0, none⟩) r r) ∧ w'.cell? ⟨W328.heap.size, 2, none⟩ = some (.slice (some ⟨w4.heap.size, 0, none⟩) 1 1)))) _ _ (fun _ h => h) hW333 ?_
        clear hK K
        try dsimp only [Act.put]
        have hbl := hW333.1.1
        have hPt : PartsS W333 W328.heap.size [.slice (some ⟨g2, 0, none⟩) c bcap, .slice (some ⟨g3, 0, none⟩) r r, .slice (some ⟨w4.heap.size, 0, none⟩) 1 1] [(strs vs).take c, List.replicate r (⟨#[46]⟩ : ByteArray), [B]] := by
          refine ⟨World.block_lt_of_cell? W333 _ hW333.2.1, rfl, fun i hi => ?_⟩
          match i, hi with
          | 0, _ => exact ⟨hW333.2.1, hsrcA _ (nx hb4 hbl)⟩
          | 1, _ => exact ⟨hW333.2.2.1, hsrcB _ (nx hb4 hbl)⟩
          | 2, _ =>
            refine ⟨hW333.2.2.2, ⟨.inr ⟨⟨w4.heap.size, 0, none⟩, 1, rfl, fun j x hj => ?_⟩, _, _, rfl⟩⟩
            match j, hj with
            | 0, hj => simp at hj; subst hj; exact hW333.1.2
            | j + 1, hj => simp at hj
        refine held_one 9 rfl (by kernel_rfl) (fun K hK => ?_)
        go_simp
        refine (concatS_any W328.heap.size 3 _ _ W333 hPt rfl (by omega) (by rw [← HX.out]; omega)).mono ?_; rintro e W5 ⟨v5, own5, hb, rfl⟩
        rw [← HX.out] at own5
        go_wp2_with fail
        have hL5 : (fun (w' : World) => ((Below w4.heap.size w4 w' ∧ w'.cell? ⟨w4.heap.size, 0, none⟩ = some (.string B)) ∧ (w'.cell? ⟨W328.heap.size, 0, none⟩ = some (.slice (some ⟨g2, 0, none⟩) c bcap) ∧ w'.cell? ⟨W328.heap.size, 1, none⟩ = some (.slice (some ⟨g3, 0, none⟩) r r) ∧ w'.cell? ⟨W328.heap.size, 2, none⟩ = some (.slice (some ⟨w4.heap.size, 0, none⟩) 1 1)))) W5 := ⟨⟨nx hW333.1.1 hb, keep_cell hb hW333.1.2⟩, keep_cell hb hW333.2.1, keep_cell hb hW333.2.2.1, keep_cell hb hW333.2.2.2⟩
        refine hK.out (fun (w' : World) => ((Below w4.heap.size w4 w' ∧ w'.cell? ⟨w4.heap.size, 0, none⟩ = some (.string B)) ∧ (w'.cell? ⟨W328.heap.size, 0, none⟩ = some (.slice (some ⟨g2, 0, none⟩) c bcap) ∧ w'.cell? ⟨W328.heap.size, 1, none⟩ = some (.slice (some ⟨g3, 0, none⟩) r r) ∧ w'.cell? ⟨W328.heap.size, 2, none⟩ = some (.slice (some ⟨w4.heap.size, 0, none⟩) 1 1)))) _ _ (fun _ h => h) hL5 ?_
        clear hK K hb
        try dsimp only [Act.put]
        refine held_one 10 rfl (by kernel_rfl) (fun K hK => ?_)
        go_simp
        refine (hW v5 _ W5 own5.cells).mono ?_; rintro e W6 ⟨rfl, hb⟩
        go_wp2_with fail
        have hL6 : (fun (w' : World) => ((Below w4.heap.size w4 w' ∧ w'.cell? ⟨w4.heap.size, 0, none⟩ = some (.string B)) ∧ (w'.cell? ⟨W328.heap.size, 0, none⟩ = some (.slice (some ⟨g2, 0, none⟩) c bcap) ∧ w'.cell? ⟨W328.heap.size, 1, none⟩ = some (.slice (some ⟨g3, 0, none⟩) r r) ∧ w'.cell? ⟨W328.heap.size, 2, none⟩ = some (.slice (some ⟨w4.heap.size, 0, none⟩) 1 1)))) W6 := ⟨⟨nx hL5.1.1 hb, keep_cell hb hL5.1.2⟩, keep_cell hb hL5.2.1, keep_cell hb hL5.2.2.1, keep_cell hb hL5.2.2.2⟩
        refine hK.out (fun (w' : World) => ((Below w4.heap.size w4 w' ∧ w'.cell? ⟨w4.heap.size, 0, none⟩ = some (.string B)) ∧ (w'.cell? ⟨W328.heap.size, 0, none⟩ = some (.slice (some ⟨g2, 0, none⟩) c bcap) ∧ w'.cell? ⟨W328.heap.size, 1, none⟩ = some (.slice (some ⟨g3, 0, none⟩) r r) ∧ w'.cell? ⟨W328.heap.size, 2, none⟩ = some (.slice (some ⟨w4.heap.size, 0, none⟩) 1 1)))) _ _ (fun _ h => h) hL6 ?_
        clear hK K hb
        try dsimp only [Act.put]
        refine held_one 11 rfl (by kernel_rfl) (fun K hK => ?_)
        go_simp
        refine (hTO _).mono ?_; rintro e W7 ⟨p7, hp7, hb, rfl⟩
        go_wp2_with fail
        have hL7 : (fun (w' : World) => ((Below w4.heap.size w4 w' ∧ w'.cell? ⟨w4.heap.size, 0, none⟩ = some (.string B)) ∧ (w'.cell? ⟨W328.heap.size, 0, none⟩ = some (.slice (some ⟨g2, 0, none⟩) c bcap) ∧ w'.cell? ⟨W328.heap.size, 1, none⟩ = some (.slice (some ⟨g3, 0, none⟩) r r) ∧ w'.cell? ⟨W328.heap.size, 2, none⟩ = some (.slice (some ⟨w4.heap.size, 0, none⟩) 1 1)))) W7 := ⟨⟨nx hL6.1.1 hb, keep_cell hb hL6.1.2⟩, keep_cell hb hL6.2.1, keep_cell hb hL6.2.2.1, keep_cell hb hL6.2.2.2⟩
        refine hK.out (fun (w' : World) => ((Below w4.heap.size w4 w' ∧ w'.cell? ⟨w4.heap.size, 0, none⟩ = some (.string B)) ∧ (w'.cell? ⟨W328.heap.size, 0, none⟩ = some (.slice (some ⟨g2, 0, none⟩) c bcap) ∧ w'.cell? ⟨W328.heap.size, 1, none⟩ = some (.slice (some ⟨g3, 0, none⟩) r r) ∧ w'.cell? ⟨W328.heap.size, 2, none⟩ = some (.slice (some ⟨w4.heap.size, 0, none⟩) 1 1)))) _ _ (fun _ h => h) hL7 ?_
        clear hK K hb
        try dsimp only [Act.put]
        refine held_one 12 rfl (by kernel_rfl) (fun K hK => ?_)
        go_simp
        refine (hHg p7 W7 hp7).mono ?_; rintro e W8 ⟨v8, own8, hb, rfl⟩
        go_wp2_with fail
        have hL8 : (fun (w' : World) => ((Below w4.heap.size w4 w' ∧ w'.cell? ⟨w4.heap.size, 0, none⟩ = some (.string B)) ∧ (w'.cell? ⟨W328.heap.size, 0, none⟩ = some (.slice (some ⟨g2, 0, none⟩) c bcap) ∧ w'.cell? ⟨W328.heap.size, 1, none⟩ = some (.slice (some ⟨g3, 0, none⟩) r r) ∧ w'.cell? ⟨W328.heap.size, 2, none⟩ = some (.slice (some ⟨w4.heap.size, 0, none⟩) 1 1)))) W8 := ⟨⟨nx hL7.1.1 hb, keep_cell hb hL7.1.2⟩, keep_cell hb hL7.2.1, keep_cell hb hL7.2.2.1, keep_cell hb hL7.2.2.2⟩
        refine hK.out (fun (w' : World) => ((Below w4.heap.size w4 w' ∧ w'.cell? ⟨w4.heap.size, 0, none⟩ = some (.string B)) ∧ (w'.cell? ⟨W328.heap.size, 0, none⟩ = some (.slice (some ⟨g2, 0, none⟩) c bcap) ∧ w'.cell? ⟨W328.heap.size, 1, none⟩ = some (.slice (some ⟨g3, 0, none⟩) r r) ∧ w'.cell? ⟨W328.heap.size, 2, none⟩ = some (.slice (some ⟨w4.heap.size, 0, none⟩) 1 1)))) _ _ (fun _ h => h) hL8 ?_
        clear hK K hb
        try dsimp only [Act.put]
        refine wpAnyH_take (i := 13) (oi := ?oi334) (v := ?vv334) ?hi334 ?hn334 ?hf334 ?hr334 ?hq334 (Or.inl ⟨?hg334, ?hy334⟩) hL8 ?rest334
        case hi334 => (simp only [List.getElem?_toArray, List.getElem?_cons_succ, List.getElem?_cons_zero]; rfl)
        case hn334 => kernel_rfl
        case hf334 => kernel_rfl
        case hr334 => kernel_rfl
        case hg334 => rfl
        case hy334 => (intro w hSw; (try dsimp only at hSw); go_simp; first | done | with_reducible rfl)
        case hq334 => exact fun _ _ _ h => h
        try dsimp only [Act.put]
        refine wpAnyH_done (by kernel_rfl) ?_ _
        try simp only [List.setIfInBounds_toArray, List.set_cons_zero, List.set_cons_succ]
        have hbz := nx (nx hb3 hb4) (hL8.1.1)
        have hbz7 := nx (nx hb3 hb4) (hL7.1.1)
        replace own8 := own8.mono hbz7.size
        go_wp2_with fail
        go_ret
        exact ⟨_, own8, hbz, rfl⟩
end Go.Proofs.Ytplmbdljhgicfaa

/-! FfV -/
namespace Go.Proofs.Ytplmbdljhgicfaa

/-- The leaves of the first trees of a forest, leaves alone behind its trees. -/
def lvN (us : List Tr) : Nat → Nat
  | 0 => 0
  | k + 1 => lvN us k + (us.getD k .lf).leaves
theorem lvN_cons (u : Tr) (us : List Tr) : ∀ k, lvN (u :: us) (k + 1) = u.leaves + lvN us k := by
  intro k
  induction k with
  | zero => simp [lvN]
  | succ k ih => rw [lvN, ih, lvN]; simp; omega
theorem lvN_nil : ∀ k, lvN [] k = k := by
  intro k
  induction k with
  | zero => rfl
  | succ k ih => rw [lvN, ih]; simp [Tr.leaves, Tr.carets]
/-- All trees of f with g stacked, before the leaves at the end are taken away. -/
def totF (us vs : List Tr) : List Tr := fillLs us vs ++ vs.drop (leavesL us)
theorem totF_cons (u : Tr) (us vs : List Tr) : totF (u :: us) vs = (u.fillR vs).1 :: totF us (vs.drop u.leaves) := by
  unfold totF
  rw [fillLs, leavesL_cons, List.drop_drop]; rfl
theorem totF_nil (vs : List Tr) : totF [] vs = vs := by simp [totF, fillLs, leavesL, sumT]
theorem totF_strip (us vs : List Tr) : stripT (totF us vs) = stackF us vs := rfl
theorem totF_get (us : List Tr) : ∀ (vs : List Tr) (k : Nat), k < (totF us vs).length → (totF us vs).getD k .lf = ((us.getD k .lf).fillR (vs.drop (lvN us k))).1 := by
  induction us with
  | nil =>
    intro vs k h
    rw [totF_nil] at h ⊢
    have e : (([] : List Tr).getD k .lf) = .lf := by simp
    rw [lvN_nil, e, List.drop_eq_getElem_cons h]
    show vs.getD k .lf = vs[k]
    simp [h]
  | cons u us ih =>
    intro vs k h
    rw [totF_cons] at h ⊢
    cases k with
    | zero => simp [lvN]
    | succ k =>
      rw [lvN_cons]
      have := ih (vs.drop u.leaves) k (by simpa using h)
      rw [List.drop_drop] at this
      simpa using this
theorem totF_more (us : List Tr) : ∀ (vs : List Tr) (k : Nat), k < (totF us vs).length ↔ (k < us.length ∨ lvN us k < vs.length) := by
  induction us with
  | nil => intro vs k; rw [totF_nil, lvN_nil]; simp
  | cons u us ih =>
    intro vs k
    rw [totF_cons]
    cases k with
    | zero => simp
    | succ k =>
      rw [lvN_cons]
      have := ih (vs.drop u.leaves) k
      rw [List.length_drop] at this
      simp only [List.length_cons]
      omega
theorem totF_length (us vs : List Tr) : (totF us vs).length ≤ us.length + vs.length := by
  unfold totF; rw [List.length_append, fillLs_length, List.length_drop]; omega
theorem fillLs_sum (us : List Tr) : ∀ vs : List Tr, sumT (fillLs us vs) + sumT (vs.drop (leavesL us)) = sumT us + sumT vs := by
  induction us with
  | nil => intro vs; simp [fillLs, leavesL, sumT]
  | cons u us ih =>
    intro vs
    rw [fillLs, leavesL_cons, sumT_cons, sumT_cons]
    have h := ih (vs.drop u.leaves)
    rw [List.drop_drop] at h
    have h1 := fillR_carets u (vs ++ List.replicate u.leaves .lf) (by simp)
    rw [fillR_pad, fillR_rest, List.drop_append, List.drop_replicate, sumC_append, sumC_append] at h1
    have e1 : ∀ n, sumC (List.replicate n Tr.lf) = 0 := fun n => sumT_lf n
    rw [e1, e1] at h1
    have e2 : sumC (vs.drop u.leaves) = sumT (vs.drop u.leaves) := rfl
    have e3 : sumC vs = sumT vs := rfl
    omega
theorem totF_sum (us vs : List Tr) : sumT (totF us vs) = sumT us + sumT vs := by
  unfold totF; rw [sumT_app]; exact fillLs_sum us vs
theorem stackF_bound (us vs : List Tr) : sumT (stackF us vs) = sumT us + sumT vs ∧ (stackF us vs).length ≤ us.length + vs.length := by
  rw [← totF_strip, sumT_strip, totF_sum]
  exact ⟨rfl, Nat.le_trans (stripT_length _) (totF_length us vs)⟩
theorem lvN_le (us : List Tr) : ∀ k, lvN us k ≤ leavesL us + k := by
  induction us with
  | nil => intro k; rw [lvN_nil]; omega
  | cons u us ih =>
    intro k
    cases k with
    | zero => simp [lvN]
    | succ k => rw [lvN_cons, leavesL_cons]; have := ih k; omega
theorem stackF_length (us vs : List Tr) (n : Nat) (h : us.length ≤ n) (k : vs.length ≤ n) : (stackF us vs).length ≤ n := by
  rw [← totF_strip]
  refine Nat.le_trans (stripT_length _) ?_
  unfold totF; rw [List.length_append, fillLs_length, List.length_drop]
  unfold leavesL; omega
end Go.Proofs.Ytplmbdljhgicfaa

/-! Ff15 -/
namespace Go.Proofs.Ytplmbdljhgicfaa
open Go.RowKit

/-- Texts of trees with leaves behind them. -/
def padN : Nat := 400
def padS (vs : List Tr) : List ByteArray := strs (vs ++ List.replicate padN Tr.lf)
theorem padS_get (vs : List Tr) (a : Nat) (h : a < vs.length + padN) : (padS vs).getD a ⟨#[]⟩ = (vs.getD a .lf).str := by
  unfold padS strs
  have h1 := map_getD (vs ++ List.replicate padN Tr.lf) a (by rw [List.length_append, List.length_replicate]; exact h)
  rw [h1]
  congr 1
  by_cases hv : a < vs.length
  · simp only [List.getD_eq_getElem?_getD, List.getElem?_append_left hv]
  · simp only [List.getD_eq_getElem?_getD]
    rw [List.getElem?_append_right (by omega), List.getElem?_replicate, List.getElem?_eq_none (show vs.length ≤ a by omega)]
    split <;> rfl
theorem padS_length (vs : List Tr) : (padS vs).length = vs.length + padN := by unfold padS; rw [strs_length, List.length_append, List.length_replicate]
theorem padS_fill (t : Tr) (vs : List Tr) (a : Nat) (h : a + t.leaves ≤ padN) : fillL t.str.data.toList ((padS vs).drop a) = (t.fillR (vs.drop a)).1.text := by
  have e : (padS vs).drop a = (vs.drop a ++ List.replicate (padN - (a - vs.length)) Tr.lf).map Tr.str := by
    unfold padS strs
    rw [← List.map_drop, List.drop_append, List.drop_replicate]
  rw [e, Tr.str_list]
  have h1 := fillL_text t (vs.drop a ++ List.replicate (padN - (a - vs.length)) Tr.lf) [] (by rw [List.length_append, List.length_replicate, List.length_drop]; omega)
  rw [List.append_nil] at h1
  rw [h1, fillR_pad]
  simp [fillL]
theorem fill_dot' {s : ByteArray} {us : List ByteArray} {i k : Nat} (hi : i < s.size) (hk : k < us.length) (h : byteAt s i = 46) :
    fillL (s.data.toList.drop i) (us.drop k) = (us.getD k ⟨#[]⟩).data.toList ++ fillL (s.data.toList.drop (i + 1)) (us.drop (k + 1)) := fill_dot hi hk h

set_option maxRecDepth 100000 in
set_option maxHeartbeats 4000000 in
theorem foStack_any (v : Value) (b : Nat) (us : List Tr) (v2 : Value) (b2 : Nat) (vs : List Tr) (w : World) (h : CellsS b w v (strs us)) (h2 : CellsS b2 w v2 (strs vs)) (hs : sumT us ≤ 60) (ht : sumT vs ≤ 60) (hl : us.length ≤ 60) (hm : vs.length ≤ 60) :
    Calls Try.prog 71 #[v, v2] w (GivesOwn (strs (stackF us vs)) w) := by
  obtain ⟨i0, hi, hz0, hz1, hz2⟩ := info_parts info_str
  have HA := Lib.hid h
  have HB := Lib.hid h2
  obtain ⟨oa, cap, rfl, hcl, hcm, _⟩ := h.form0
  obtain ⟨ob, bcap, rfl, hdl, hdm, _⟩ := h2.form0
  unfold maxLen at hcm hdm
  simp only [strs_length] at *
  have hTs := totF_sum us vs
  have hTl := totF_length us vs
  have hlv : leavesL us ≤ 120 := by unfold leavesL; omega
  have HG := Lib.hid (totF_get us vs)
  have HM := Lib.hid (totF_more us vs)
  have HV := Lib.hid (lvN_le us)
  have HW := fun v b w h => wdShort_own v b (totF us vs) w h (by omega)
  rw [totF_strip] at HW
  obtain ⟨N, hN⟩ : ∃ N, N = (totF us vs).length := ⟨_, rfl⟩
  have HN := Lib.hid hN
  have hN2 : N ≤ 120 := by omega
  have HS := Lib.hid hTs
  clear h h2 hTs hTl hN
  go_enter Try.func71, Try.ntmps71
  go_wp2_with fail
  go_loopw [5, 6, 7] (fun u lf i wr => ∃ (k : Nat) (ss : List ByteArray), k ≤ N ∧ i = .int .i64 k ∧ lf = .int .i64 ((lvN us k : Nat) : Int) ∧ OwnS w.heap.size wr u ss ∧ ss.length = k ∧ Hid (ss = strs ((totF us vs).take k)) ∧ Below w.heap.size w wr) (fun _ _ i _ => N - (intOf i).toNat)
  case atStart => exact ⟨0, [], Nat.zero_le _, rfl, rfl, OwnS.nil _ _, rfl, rfl, Below.refl _ _⟩
  case round =>
    obtain ⟨k, ss, hk, rfl, rfl, hown, hsl, he, hbw⟩ := hrel
    by_cases hlt : k < N
    · have hmore := (HM.out k).1 (by rw [← HN.out]; exact hlt)
      have hget := HG.out k (by rw [← HN.out]; exact hlt)
      have hkm : k < (totF us vs).length := by rw [← HN.out]; exact hlt
      have hcar : ((totF us vs).getD k .lf).carets ≤ 120 := by
        rw [List.getD_eq_getElem?_getD, List.getElem?_eq_getElem hkm]
        have h1 := sumT_mem (List.getElem_mem hkm)
        have h2 := HS.out
        simp; omega
      have hnext : ss ++ [((totF us vs).getD k .lf).str] = strs ((totF us vs).take (k + 1)) := by
        rw [he.out]; unfold strs
        rw [List.take_succ_eq_append_getElem hkm, List.map_append]
        simp [hkm]
      have hpf := padS_fill (us.getD k .lf) vs (lvN us k) (by have h1 := HV.out (k + 1); rw [lvN] at h1; show _ ≤ 400; omega)
      rw [← hget] at hpf
      have hlv1 : lvN us (k + 1) = lvN us k + (us.getD k .lf).leaves := rfl
      have hlv2 := HV.out (k + 1)
      have hdots := text_dots (us.getD k .lf)
      have hts := (us.getD k .lf).str_size
      have htl : (us.getD k .lf).str.data.toList = (us.getD k .lf).text := (us.getD k .lf).str_list
      have hct : (us.getD k .lf).carets ≤ 60 := by
        by_cases hj : k < us.length
        · rw [List.getD_eq_getElem?_getD, List.getElem?_eq_getElem hj]
          have := sumT_mem (List.getElem_mem hj); simp; omega
        · rw [List.getD_eq_getElem?_getD, List.getElem?_eq_none (by omega)]; simp [Tr.carets]
      have hFs := ((totF us vs).getD k .lf).str_size
      have hTA := fun w h => foTree_any (.slice oa us.length cap) b us k w h (by omega)
      have hTB := fun (a : Nat) w h (ha : (a : Int) ≤ 1000000) => foTree_any (.slice ob vs.length bcap) b2 vs a w h ha
      have hF0 : ((totF us vs).getD k .lf).str.data.toList = fillL (us.getD k .lf).str.data.toList ((padS vs).drop (lvN us k)) := by rw [hpf, Tr.str_list]
      have hcount : (us.getD k .lf).str.data.toList.count 46 = (us.getD k .lf).leaves := by rw [htl, hdots]; rfl
      generalize ((totF us vs).getD k .lf).str = F at *
      generalize (us.getD k .lf).leaves = nl at *
      generalize (us.getD k .lf).str = s at *
      have HX := Lib.hid hnext
      have HF := Lib.hid hF0
      have HC := Lib.hid hcount
      have HL1 := Lib.hid hlv1
      have HSL := Lib.hid hsl
      have hss9 : ss.length ≤ 120 := by omega
      have hs181 : s.size ≤ 200 := by omega
      have hF9 : F.size ≤ 400 := by omega
      have hend9 : lvN us k + nl ≤ 250 := by omega
      have hor : (k : Int) < (us.length : Int) ∨ (¬ (k : Int) < (us.length : Int) ∧ ((lvN us k : Nat) : Int) < (vs.length : Int)) := by omega
      unfold OwnS at hown
      generalize lvN us k = a0 at *
      clear hmore hget hkm hcar hnext hpf hlv1 hlv2 hdots hts htl hct hFs hF0 hcount he hsl
      rcases hor with hor1 | ⟨hor1, hor2⟩
      · have hk16 : (k : Int) ≤ 120 := by omega
        go_wp2_with fail
        refine (hTA _ (HA.out.keep hbw)).mono ?_; rintro e w3 ⟨rfl, rfl⟩
        go_wp2_with fail
        go_loopw [6, 9, 10] (fun lf x i w2 => ∃ (T : ByteArray) (a j : Nat), x = .string T ∧ lf = .int .i64 a ∧ i = .int .i64 j ∧ j ≤ s.size ∧ T.size ≤ 400 ∧ Hid ((s.data.toList.drop j).count 46 + a = a0 + nl) ∧ Hid (F.data.toList = T.data.toList ++ fillL (s.data.toList.drop j) ((padS vs).drop a)) ∧ w2 = wr) (fun _ _ i _ => s.size - (intOf i).toNat)
        case atStart => exact ⟨⟨#[]⟩, a0, 0, rfl, rfl, rfl, Nat.zero_le _, Nat.zero_le _, by show _ = _; rw [List.drop_zero, HC.out]; omega, by show _ = _; rw [List.drop_zero]; simpa using HF.out, rfl⟩
        case round =>
          obtain ⟨T, a, j, rfl, rfl, rfl, hj, hT, hcnt, hft, rfl⟩ := hrel
          by_cases hjl : j < s.size
          · have hcc := dots_drop hjl
            have hbj := byteAt_eq s j (by simpa using hjl)
            have hjl' : (j : Int) < (s.size : Int) := by omega
            have hac := hcnt.out
            have ha9 : a ≤ 250 := by omega
            by_cases h46 : byteAt s j = 46
            · rw [if_pos h46] at hcc
              have hka : a < (padS vs).length := by rw [padS_length]; show a < _ + 400; omega
              have hfd := fill_dot' hjl hka h46
              have hpg := padS_get vs a (by show a < _ + 400; omega)
              have h46' : (((s[j]'hjl).toNat : Int) == 46) = true := by rw [beq_iff_eq, ← h46, hbj]; rfl
              rw [hpg] at hfd
              have hTBa := fun w h => hTB a w h (by omega)
              have hft' : F.data.toList = (T ++ (vs.getD a .lf).str).data.toList ++ fillL (s.data.toList.drop (j + 1)) ((padS vs).drop (a + 1)) := by
                rw [hft.out, hfd]; simp
              have hz : (T ++ (vs.getD a .lf).str).size ≤ 400 := by
                rw [Lib.size_eq]
                have := congrArg List.length hft'
                rw [List.length_append, ← Lib.size_eq F] at this
                omega
              have hcn : Hid ((s.data.toList.drop (j + 1)).count 46 + (a + 1) = a0 + nl) := by show _ = _; omega
              have hzz := hz
              rw [ByteArray.size_append] at hz
              generalize (vs.getD a .lf).str = u at *
              have HE := Lib.hid hft'
              have HZ := Lib.hid hzz
              clear hfd hft' hft hpg hbj h46 hka hac hcc hzz hcnt
              go_wp2_with fail
              refine (hTBa _ (HB.out.keep hbw)).mono ?_; rintro e w4 ⟨rfl, rfl⟩
              go_wp2_with fail
              go_roundw
              case rel => exact ⟨T ++ u, a + 1, j + 1, rfl, by go_num, by go_num, by omega, HZ.out, hcn, HE, trivial⟩
              case measure => simp [intOf]; omega
            · rw [if_neg h46] at hcc
              have hfd := (fill_other (us := padS vs) (k := a) hjl h46).1
              have h46' : (((s[j]'hjl).toNat : Int) == 46) = false := by
                rw [beq_eq_false_iff_ne]; intro e; apply h46; rw [hbj]; exact e
              have hft' : F.data.toList = (T ++ s.extract j (j + 1)).data.toList ++ fillL (s.data.toList.drop (j + 1)) ((padS vs).drop a) := by
                rw [hft.out, hfd]; simp
              have hz : (T ++ s.extract j (j + 1)).size ≤ 400 := by
                rw [Lib.size_eq]
                have := congrArg List.length hft'
                rw [List.length_append, ← Lib.size_eq F] at this
                omega
              have hcn : Hid ((s.data.toList.drop (j + 1)).count 46 + a = a0 + nl) := by show _ = _; omega
              have HZ := Lib.hid hz
              have hz' : T.size + (s.extract j (j + 1)).size ≤ 400 := by rw [ByteArray.size_append] at hz; exact hz
              have HE := Lib.hid hft'
              clear hfd hft' hft hbj h46 hac hcc hz hcnt
              go_wp2_with fail
              go_roundw
              case rel => exact ⟨T ++ s.extract j (j + 1), a, j + 1, rfl, rfl, by go_num, by omega, HZ.out, hcn, HE, trivial⟩
              case measure => simp [intOf]; omega
          · obtain rfl : j = s.size := by omega
            have hend : T = F := by
              apply ba_ext
              rw [hft.out, List.drop_of_length_le (by rw [Lib.size_eq]; exact Nat.le_refl _)]
              simp [fillL]
            have hae : a = a0 + nl := by
              have := hcnt.out
              rw [List.drop_of_length_le (by rw [Lib.size_eq]; exact Nat.le_refl _)] at this
              simpa using this
            have HAE : Hid (a = lvN us (k + 1)) := by show _ = _; rw [hae, HL1.out]
            subst hend
            clear hae hft hcnt
            go_wp2_with (at_builtin; refine wpList_append_own _ rfl _ _ 22 rfl w.heap.size 9 i0 (.string ⟨#[]⟩) 1 16 Try.underlying22 hi hz0 hz1 hz2 rfl (by decide) _ _ _ rfl (hown.alloc _) ⟨wr.heap.size, 0, none⟩ 1 1 [.string T] rfl rfl (new1 _ _ _) (oneS [T]) (by unfold maxLen; omega) (by omega) (size_al hbw _) ?_; intro v' w9 hown' hgrow hnn)
            have hbw9 := below_app hbw hown (Nat.le_refl _) hgrow
            have hown1 : OwnS w.heap.size w9 v' (ss ++ [T]) := OwnS.app (B := [T]) hown'
            clear hown hown' hgrow hbw hnn
            go_wp2_with fail
            go_roundw
            case rel => exact ⟨k + 1, _, by omega, by go_num, by rw [HAE.out], hown1, by have := HSL.out; simp; omega, HX, hbw9⟩
            case measure => simp [intOf]; omega
      · have hk16 : (k : Int) ≤ 120 := by omega
        go_wp2_with fail
        refine (hTA _ (HA.out.keep hbw)).mono ?_; rintro e w3 ⟨rfl, rfl⟩
        go_wp2_with fail
        go_loopw [6, 9, 10] (fun lf x i w2 => ∃ (T : ByteArray) (a j : Nat), x = .string T ∧ lf = .int .i64 a ∧ i = .int .i64 j ∧ j ≤ s.size ∧ T.size ≤ 400 ∧ Hid ((s.data.toList.drop j).count 46 + a = a0 + nl) ∧ Hid (F.data.toList = T.data.toList ++ fillL (s.data.toList.drop j) ((padS vs).drop a)) ∧ w2 = wr) (fun _ _ i _ => s.size - (intOf i).toNat)
        case atStart => exact ⟨⟨#[]⟩, a0, 0, rfl, rfl, rfl, Nat.zero_le _, Nat.zero_le _, by show _ = _; rw [List.drop_zero, HC.out]; omega, by show _ = _; rw [List.drop_zero]; simpa using HF.out, rfl⟩
        case round =>
          obtain ⟨T, a, j, rfl, rfl, rfl, hj, hT, hcnt, hft, rfl⟩ := hrel
          by_cases hjl : j < s.size
          · have hcc := dots_drop hjl
            have hbj := byteAt_eq s j (by simpa using hjl)
            have hjl' : (j : Int) < (s.size : Int) := by omega
            have hac := hcnt.out
            have ha9 : a ≤ 250 := by omega
            by_cases h46 : byteAt s j = 46
            · rw [if_pos h46] at hcc
              have hka : a < (padS vs).length := by rw [padS_length]; show a < _ + 400; omega
              have hfd := fill_dot' hjl hka h46
              have hpg := padS_get vs a (by show a < _ + 400; omega)
              have h46' : (((s[j]'hjl).toNat : Int) == 46) = true := by rw [beq_iff_eq, ← h46, hbj]; rfl
              rw [hpg] at hfd
              have hTBa := fun w h => hTB a w h (by omega)
              have hft' : F.data.toList = (T ++ (vs.getD a .lf).str).data.toList ++ fillL (s.data.toList.drop (j + 1)) ((padS vs).drop (a + 1)) := by
                rw [hft.out, hfd]; simp
              have hz : (T ++ (vs.getD a .lf).str).size ≤ 400 := by
                rw [Lib.size_eq]
                have := congrArg List.length hft'
                rw [List.length_append, ← Lib.size_eq F] at this
                omega
              have hcn : Hid ((s.data.toList.drop (j + 1)).count 46 + (a + 1) = a0 + nl) := by show _ = _; omega
              have hzz := hz
              rw [ByteArray.size_append] at hz
              generalize (vs.getD a .lf).str = u at *
              have HE := Lib.hid hft'
              have HZ := Lib.hid hzz
              clear hfd hft' hft hpg hbj h46 hka hac hcc hzz hcnt
              go_wp2_with fail
              refine (hTBa _ (HB.out.keep hbw)).mono ?_; rintro e w4 ⟨rfl, rfl⟩
              go_wp2_with fail
              go_roundw
              case rel => exact ⟨T ++ u, a + 1, j + 1, rfl, by go_num, by go_num, by omega, HZ.out, hcn, HE, trivial⟩
              case measure => simp [intOf]; omega
            · rw [if_neg h46] at hcc
              have hfd := (fill_other (us := padS vs) (k := a) hjl h46).1
              have h46' : (((s[j]'hjl).toNat : Int) == 46) = false := by
                rw [beq_eq_false_iff_ne]; intro e; apply h46; rw [hbj]; exact e
              have hft' : F.data.toList = (T ++ s.extract j (j + 1)).data.toList ++ fillL (s.data.toList.drop (j + 1)) ((padS vs).drop a) := by
                rw [hft.out, hfd]; simp
              have hz : (T ++ s.extract j (j + 1)).size ≤ 400 := by
                rw [Lib.size_eq]
                have := congrArg List.length hft'
                rw [List.length_append, ← Lib.size_eq F] at this
                omega
              have hcn : Hid ((s.data.toList.drop (j + 1)).count 46 + a = a0 + nl) := by show _ = _; omega
              have HZ := Lib.hid hz
              have hz' : T.size + (s.extract j (j + 1)).size ≤ 400 := by rw [ByteArray.size_append] at hz; exact hz
              have HE := Lib.hid hft'
              clear hfd hft' hft hbj h46 hac hcc hz hcnt
              go_wp2_with fail
              go_roundw
              case rel => exact ⟨T ++ s.extract j (j + 1), a, j + 1, rfl, rfl, by go_num, by omega, HZ.out, hcn, HE, trivial⟩
              case measure => simp [intOf]; omega
          · obtain rfl : j = s.size := by omega
            have hend : T = F := by
              apply ba_ext
              rw [hft.out, List.drop_of_length_le (by rw [Lib.size_eq]; exact Nat.le_refl _)]
              simp [fillL]
            have hae : a = a0 + nl := by
              have := hcnt.out
              rw [List.drop_of_length_le (by rw [Lib.size_eq]; exact Nat.le_refl _)] at this
              simpa using this
            have HAE : Hid (a = lvN us (k + 1)) := by show _ = _; rw [hae, HL1.out]
            subst hend
            clear hae hft hcnt
            go_wp2_with (at_builtin; refine wpList_append_own _ rfl _ _ 22 rfl w.heap.size 9 i0 (.string ⟨#[]⟩) 1 16 Try.underlying22 hi hz0 hz1 hz2 rfl (by decide) _ _ _ rfl (hown.alloc _) ⟨wr.heap.size, 0, none⟩ 1 1 [.string T] rfl rfl (new1 _ _ _) (oneS [T]) (by unfold maxLen; omega) (by omega) (size_al hbw _) ?_; intro v' w9 hown' hgrow hnn)
            have hbw9 := below_app hbw hown (Nat.le_refl _) hgrow
            have hown1 : OwnS w.heap.size w9 v' (ss ++ [T]) := OwnS.app (B := [T]) hown'
            clear hown hown' hgrow hbw hnn
            go_wp2_with fail
            go_roundw
            case rel => exact ⟨k + 1, _, by omega, by go_num, by rw [HAE.out], hown1, by have := HSL.out; simp; omega, HX, hbw9⟩
            case measure => simp [intOf]; omega
    · obtain rfl : k = N := by omega
      have hno := mt (HM.out k).2 (by rw [← HN.out]; omega)
      have hno1 : ¬ ((k : Int) < (us.length : Int)) := by omega
      have hno2 : ¬ (((lvN us k : Nat) : Int) < (vs.length : Int)) := by omega
      have h1 := he.out
      rw [List.take_of_length_le (by rw [← HN.out]; exact Nat.le_refl _)] at h1
      rw [h1] at hown
      clear he h1 hno hsl
      go_wp2_with fail
      refine (HW _ _ _ hown.cells).mono ?_; rintro e w9 ⟨v9, own9, hb9, rfl⟩
      go_wp2_with fail
      go_ret
      exact ⟨_, own9.mono hbw.size, nx hbw hb9, rfl⟩

end Go.Proofs.Ytplmbdljhgicfaa

/-! Ff9 -/
namespace Go.Proofs.Ytplmbdljhgicfaa
open Go.RowKit

def joinFo (o p : Option (List Tr)) : Option (List ByteArray) :=
  match o, p with
  | some us, some vs => if okF (joinF us vs) = true then some (strs (joinF us vs)) else none
  | _, _ => none
def comFo (o p : Option (List Tr)) : Option (List ByteArray) :=
  match o, p with
  | some us, some vs => some (strs (stripT (comF us vs)))
  | _, _ => none
theorem joinFo_ans (us vs : List Tr) (h : lastB us = true) (k : lastB vs = true) : AnsSs (joinFo (some us) (some vs)) = AnsS2 (if okF (stripT (joinL us vs)) = true then strs (stripT (joinL us vs)) else []) (okF (stripT (joinL us vs))) := by
  rw [joinL_eq, (lastB_strip _).1 (joinF_last us vs h k)]
  unfold AnsSs joinFo
  cases h : okF (joinF us vs) <;> simp [h]
theorem comF_ok {us : List Tr} (vs : List Tr) (h : us.length ≤ 8) (k : sumT us ≤ 8) : okF (stripT (comF us vs)) = true := by
  have h1 := comF_length us vs
  have h2 := comF_sum us vs
  have h3 := stripT_length (comF us vs)
  have h4 := sumT_strip (comF us vs)
  exact okF_iff.2 ⟨by omega, by omega, stripT_lastB _⟩
theorem comFo_ans (us vs : List Tr) (h : us.length ≤ 8) (k : sumT us ≤ 8) : AnsSs (comFo (some us) (some vs)) = AnsS2 (if okF (stripT (comL us vs)) = true then strs (stripT (comL us vs)) else []) (okF (stripT (comL us vs))) := by
  rw [comL_strip, comF_ok vs h k, if_pos rfl]
  rfl
theorem joinF_strip {us vs : List Tr} (h : lastB us = true) (k : lastB vs = true) : stripT (joinF us vs) = joinF us vs := (lastB_strip _).1 (joinF_last us vs h k)
theorem take_strs1 (ts : List Tr) (k : Nat) (h : k < ts.length) : strs (ts.take (k + 1)) = strs (ts.take k) ++ [(ts.getD k .lf).str] := by
  unfold strs
  rw [List.take_succ_eq_append_getElem h, List.map_append]
  simp [h]
theorem joinL_get (us vs : List Tr) (k : Nat) (h : k < max us.length vs.length) : (joinL us vs).getD k .lf = (us.getD k .lf).join (vs.getD k .lf) := by
  unfold joinL
  rw [List.getD_eq_getElem?_getD, List.getElem?_map, List.getElem?_range h]; rfl
theorem comL_get (us vs : List Tr) (k : Nat) (h : k < max us.length vs.length) : (comL us vs).getD k .lf = (us.getD k .lf).com (vs.getD k .lf) := by
  unfold comL
  rw [List.getD_eq_getElem?_getD, List.getElem?_map, List.getElem?_range h]; rfl
theorem joinL_length (us vs : List Tr) : (joinL us vs).length = max us.length vs.length := by simp [joinL]
theorem comL_length (us vs : List Tr) : (comL us vs).length = max us.length vs.length := by simp [comL]
theorem comL_sum (us vs : List Tr) : sumT (comL us vs) ≤ sumT us := by
  obtain ⟨m, hm⟩ := comL_eq us vs
  rw [hm, sumT_app, sumT_lf]
  have := comF_sum us vs
  omega
theorem carets_at (us : List Tr) (k : Nat) (h : sumT us ≤ 60) : (us.getD k .lf).carets ≤ 60 := by
  by_cases hj : k < us.length
  · rw [List.getD_eq_getElem?_getD, List.getElem?_eq_getElem hj]
    have := sumT_mem (List.getElem_mem hj); simp; omega
  · rw [List.getD_eq_getElem?_getD, List.getElem?_eq_none (by omega)]; simp [Tr.carets]

set_option maxRecDepth 100000 in
set_option maxHeartbeats 400000 in
theorem specJoinForests_any (v : Value) (b : Nat) (L : List ByteArray) (v2 : Value) (b2 : Nat) (M : List ByteArray) (w : World) (h : CellsS b w v L) (h2 : CellsS b2 w v2 M) (hz : ∀ s ∈ L, s.size ≤ 1048576) (hz2 : ∀ s ∈ M, s.size ≤ 1048576) (hn : L.length ≤ 1048576) (hn2 : M.length ≤ 1048576) :
    Calls Try.prog 26 #[v, v2] w (AnsSs (joinFo (forOf L) (forOf M)) w) := by
  have hG := fun w h => foGood_any v b L w h hz hn
  have hH := fun w h => foGood_any v2 b2 M w h hz2 hn2
  have HA := Lib.hid h
  have HB := Lib.hid h2
  obtain ⟨oa, cap, rfl, hcl, hcm, hcc⟩ := h.form0
  obtain ⟨ob, bcap, rfl, hdl, hdm, hdc⟩ := h2.form0
  unfold maxLen at hcm hdm
  have HC := Lib.hid hcc
  have HD := Lib.hid hdc
  clear h h2 hz hz2 hcc hdc
  rcases hf : forOf L with _ | us
  · rw [hf] at hG
    have hG' : ∀ w, CellsS b w (.slice oa L.length cap) L → Calls Try.prog 41 #[.slice oa L.length cap] w (Gives (.bool false) w) := hG
    clear hG hH hf HC HD
    go_enter Try.func26, Try.ntmps26
    go_wp2_with fail
    refine (hG' _ HA.out).mono ?_; rintro e w1 ⟨rfl, hb1⟩
    go_wp2_with fail
    go_ret2
    exact ⟨_, OwnS.nil _ _, hb1, rfl⟩
  · rcases hk : forOf M with _ | vs
    · rw [hf] at hG
      rw [hk] at hH
      have hG' : ∀ w, CellsS b w (.slice oa L.length cap) L → Calls Try.prog 41 #[.slice oa L.length cap] w (Gives (.bool true) w) := hG
      have hH' : ∀ w, CellsS b2 w (.slice ob M.length bcap) M → Calls Try.prog 41 #[.slice ob M.length bcap] w (Gives (.bool false) w) := hH
      clear hG hH hf hk HC HD
      go_enter Try.func26, Try.ntmps26
      go_wp2_with fail
      refine (hG' _ HA.out).mono ?_; rintro e w1 ⟨rfl, hb1⟩
      go_wp2_with fail
      refine (hH' _ (HB.out.keep hb1)).mono ?_; rintro e w2 ⟨rfl, hb2⟩
      replace hb2 := nx hb1 hb2
      go_wp2_with fail
      go_ret2
      exact ⟨_, OwnS.nil _ _, hb2, rfl⟩
    · rw [hf] at hG
      rw [hk] at hH
      have hG' : ∀ w, CellsS b w (.slice oa L.length cap) L → Calls Try.prog 41 #[.slice oa L.length cap] w (Gives (.bool true) w) := hG
      have hH' : ∀ w, CellsS b2 w (.slice ob M.length bcap) M → Calls Try.prog 41 #[.slice ob M.length bcap] w (Gives (.bool true) w) := hH
      obtain ⟨hL, hl8, hs8, hlast⟩ := forOf_strs hf
      obtain ⟨hM, hm8, ht8, hlastM⟩ := forOf_strs hk
      have hLu : L.length = us.length := by rw [hL, strs_length]
      have hMu : M.length = vs.length := by rw [hM, strs_length]
      have HSA : Hid (∀ w, CellsS b w (.slice oa L.length cap) L → CellsS b w (.slice oa L.length cap) (strs us)) := fun w h => by rw [← hL]; exact h
      have HSB : Hid (∀ w, CellsS b2 w (.slice ob M.length bcap) M → CellsS b2 w (.slice ob M.length bcap) (strs vs)) := fun w h => by rw [← hM]; exact h
      have HLA := Lib.hid hlast
      have HLB := Lib.hid hlastM
      have HLU := Lib.hid hLu
      have HMU := Lib.hid hMu
      clear hG hH hf hk hL hM hlast hlastM HC HD hLu hMu
      obtain ⟨i0, hi, hz0, hz1, hz2⟩ := info_parts info_str
      obtain ⟨N, hN⟩ : ∃ N, N = max L.length M.length := ⟨_, rfl⟩
      have hN16 : N ≤ 16 := by have := HLU.out; have := HMU.out; omega
      have hJl : (joinL us vs).length = N := by have := HLU.out; have := HMU.out; rw [joinL_length]; omega
      have HJL := Lib.hid hJl
      have HNN := Lib.hid hN
      have HS1 := Lib.hid hs8
      have HS2 := Lib.hid ht8
      clear hJl hN hs8 ht8
      go_enter Try.func26, Try.ntmps26
      go_wp2_with fail
      refine (hG' _ HA.out).mono ?_; rintro e w1 ⟨rfl, hb1⟩
      go_wp2_with fail
      refine (hH' _ (HB.out.keep hb1)).mono ?_; rintro e w2 ⟨rfl, hb2⟩
      replace hb2 := nx hb1 hb2
      go_wp2_with fail
      go_loopw [6, 7] (fun u i wr => ∃ (k : Nat) (ss : List ByteArray), k ≤ N ∧ i = .int .i64 k ∧ ss.length = k ∧ OwnS w2.heap.size wr u ss ∧ Hid (ss = strs ((joinL us vs).take k)) ∧ Below w2.heap.size w2 wr) (fun _ i _ => N - (intOf i).toNat)
      case atStart => exact ⟨0, [], Nat.zero_le _, rfl, rfl, OwnS.nil _ _, rfl, Below.refl _ _⟩
      case round =>
        obtain ⟨k, ss, hk, rfl, hsl, hown, he, hbw⟩ := hrel
        by_cases hlt : k < N
        · have hkm : k < max us.length vs.length := by have := HNN.out; have := HLU.out; have := HMU.out; omega
          have hnext := take_strs1 (joinL us vs) k (by have := HJL.out; omega)
          rw [joinL_get us vs k hkm, ← he.out] at hnext
          have hTA := fun w h => foTree_any (.slice oa L.length cap) b us k w h (by omega)
          have hTB := fun w h => foTree_any (.slice ob M.length bcap) b2 vs k w h (by omega)
          have hJ := fun w => trJoin_any (us.getD k .lf) (vs.getD k .lf) w (carets_at us k (by have := HS1.out; omega)) (carets_at vs k (by have := HS2.out; omega))
          generalize us.getD k .lf = ta at *
          generalize vs.getD k .lf = tb at *
          generalize (ta.join tb).str = x at *
          have HX := Lib.hid hnext.symm
          have HSL := Lib.hid hsl
          have hss9 : ss.length ≤ 16 := by omega
          unfold OwnS at hown
          have hor : (k : Int) < (L.length : Int) ∨ (¬ (k : Int) < (L.length : Int) ∧ (k : Int) < (M.length : Int)) := by have := HNN.out; omega
          clear hnext he hsl hkm
          rcases hor with hor1 | ⟨hor1, hor2⟩
          · have hlt' : (k : Int) < 16 := by omega
            have hb4 := hbw
            go_wp2_with fail
            refine (hTA _ (HSA.out _ (HA.out.keep (nx hb2 hb4)))).mono ?_; rintro e w3 ⟨rfl, rfl⟩
            go_wp2_with fail
            refine (hTB _ (HSB.out _ (HB.out.keep (nx hb2 hb4)))).mono ?_; rintro e w4 ⟨rfl, rfl⟩
            go_wp2_with fail
            refine (hJ _).mono ?_; rintro e w5 ⟨rfl, hb5⟩
            have hown5 := ownsRow_keep hown hb5
            have hbw5 := nx hbw hb5
            clear hown hbw hb5 hb4
            go_wp2_with (at_builtin; refine wpList_append_own _ rfl _ _ 22 rfl w2.heap.size 9 i0 (.string ⟨#[]⟩) 1 16 Try.underlying22 hi hz0 hz1 hz2 rfl (by decide) _ _ _ rfl (hown5.alloc _) ⟨w5.heap.size, 0, none⟩ 1 1 [.string x] rfl rfl (new1 _ _ _) (oneS [x]) (by unfold maxLen; omega) (by omega) (size_al hbw5 _) ?_; intro v' w9 hown' hgrow hnn)
            have hbw9 := below_app hbw5 hown5 (Nat.le_refl _) hgrow
            have hown1 : OwnS w2.heap.size w9 v' (ss ++ [x]) := OwnS.app (B := [x]) hown'
            clear hown5 hown' hgrow hbw5 hnn
            go_wp2_with fail
            go_roundw
            case rel => exact ⟨k + 1, _, by omega, by go_num, by have := HSL.out; simp; omega, hown1, HX, hbw9⟩
            case measure => simp [intOf]; omega
          · have hlt' : (k : Int) < 16 := by omega
            have hb4 := hbw
            go_wp2_with fail
            refine (hTA _ (HSA.out _ (HA.out.keep (nx hb2 hb4)))).mono ?_; rintro e w3 ⟨rfl, rfl⟩
            go_wp2_with fail
            refine (hTB _ (HSB.out _ (HB.out.keep (nx hb2 hb4)))).mono ?_; rintro e w4 ⟨rfl, rfl⟩
            go_wp2_with fail
            refine (hJ _).mono ?_; rintro e w5 ⟨rfl, hb5⟩
            have hown5 := ownsRow_keep hown hb5
            have hbw5 := nx hbw hb5
            clear hown hbw hb5 hb4
            go_wp2_with (at_builtin; refine wpList_append_own _ rfl _ _ 22 rfl w2.heap.size 9 i0 (.string ⟨#[]⟩) 1 16 Try.underlying22 hi hz0 hz1 hz2 rfl (by decide) _ _ _ rfl (hown5.alloc _) ⟨w5.heap.size, 0, none⟩ 1 1 [.string x] rfl rfl (new1 _ _ _) (oneS [x]) (by unfold maxLen; omega) (by omega) (size_al hbw5 _) ?_; intro v' w9 hown' hgrow hnn)
            have hbw9 := below_app hbw5 hown5 (Nat.le_refl _) hgrow
            have hown1 : OwnS w2.heap.size w9 v' (ss ++ [x]) := OwnS.app (B := [x]) hown'
            clear hown5 hown' hgrow hbw5 hnn
            go_wp2_with fail
            go_roundw
            case rel => exact ⟨k + 1, _, by omega, by go_num, by have := HSL.out; simp; omega, hown1, HX, hbw9⟩
            case measure => simp [intOf]; omega
        · obtain rfl : k = N := by omega
          have h1 := he.out
          rw [List.take_of_length_le (by have := HJL.out; omega)] at h1
          have hno1 : ¬ ((k : Int) < (L.length : Int)) := by have := HNN.out; omega
          have hno2 : ¬ ((k : Int) < (M.length : Int)) := by have := HNN.out; omega
          subst h1
          have hF : ∀ u0 w, CellsS w2.heap.size w u0 (strs (joinL us vs)) → Calls Try.prog 55 #[u0] w (AnsSs (joinFo (some us) (some vs)) w) := fun u0 w h => by
            have h1 := foIf_any u0 w2.heap.size (joinL us vs) w h (by rw [joinL_eq]; have := joinF_sum us vs; have := HS1.out; have := HS2.out; omega) (by have := HJL.out; omega)
            rw [joinFo_ans us vs HLA.out HLB.out]
            exact h1
          clear he hsl
          go_wp2_with fail
          refine (hF _ _ hown.cells).mono ?_; rintro e w9 ⟨v9, own9, hb9, rfl⟩
          replace own9 := own9.mono (by have := nx hb2 hbw; exact this.size)
          go_wp2_with fail
          go_ret2
          exact ⟨_, own9, nx (nx hb2 hbw) hb9, rfl⟩

set_option maxRecDepth 100000 in
set_option maxHeartbeats 400000 in
theorem specCommonForest_any (v : Value) (b : Nat) (L : List ByteArray) (v2 : Value) (b2 : Nat) (M : List ByteArray) (w : World) (h : CellsS b w v L) (h2 : CellsS b2 w v2 M) (hz : ∀ s ∈ L, s.size ≤ 1048576) (hz2 : ∀ s ∈ M, s.size ≤ 1048576) (hn : L.length ≤ 1048576) (hn2 : M.length ≤ 1048576) :
    Calls Try.prog 30 #[v, v2] w (AnsSs (comFo (forOf L) (forOf M)) w) := by
  have hG := fun w h => foGood_any v b L w h hz hn
  have hH := fun w h => foGood_any v2 b2 M w h hz2 hn2
  have HA := Lib.hid h
  have HB := Lib.hid h2
  obtain ⟨oa, cap, rfl, hcl, hcm, hcc⟩ := h.form0
  obtain ⟨ob, bcap, rfl, hdl, hdm, hdc⟩ := h2.form0
  unfold maxLen at hcm hdm
  have HC := Lib.hid hcc
  have HD := Lib.hid hdc
  clear h h2 hz hz2 hcc hdc
  rcases hf : forOf L with _ | us
  · rw [hf] at hG
    have hG' : ∀ w, CellsS b w (.slice oa L.length cap) L → Calls Try.prog 41 #[.slice oa L.length cap] w (Gives (.bool false) w) := hG
    clear hG hH hf HC HD
    go_enter Try.func30, Try.ntmps30
    go_wp2_with fail
    refine (hG' _ HA.out).mono ?_; rintro e w1 ⟨rfl, hb1⟩
    go_wp2_with fail
    go_ret2
    exact ⟨_, OwnS.nil _ _, hb1, rfl⟩
  · rcases hk : forOf M with _ | vs
    · rw [hf] at hG
      rw [hk] at hH
      have hG' : ∀ w, CellsS b w (.slice oa L.length cap) L → Calls Try.prog 41 #[.slice oa L.length cap] w (Gives (.bool true) w) := hG
      have hH' : ∀ w, CellsS b2 w (.slice ob M.length bcap) M → Calls Try.prog 41 #[.slice ob M.length bcap] w (Gives (.bool false) w) := hH
      clear hG hH hf hk HC HD
      go_enter Try.func30, Try.ntmps30
      go_wp2_with fail
      refine (hG' _ HA.out).mono ?_; rintro e w1 ⟨rfl, hb1⟩
      go_wp2_with fail
      refine (hH' _ (HB.out.keep hb1)).mono ?_; rintro e w2 ⟨rfl, hb2⟩
      replace hb2 := nx hb1 hb2
      go_wp2_with fail
      go_ret2
      exact ⟨_, OwnS.nil _ _, hb2, rfl⟩
    · rw [hf] at hG
      rw [hk] at hH
      have hG' : ∀ w, CellsS b w (.slice oa L.length cap) L → Calls Try.prog 41 #[.slice oa L.length cap] w (Gives (.bool true) w) := hG
      have hH' : ∀ w, CellsS b2 w (.slice ob M.length bcap) M → Calls Try.prog 41 #[.slice ob M.length bcap] w (Gives (.bool true) w) := hH
      obtain ⟨hL, hl8, hs8, hlast⟩ := forOf_strs hf
      obtain ⟨hM, hm8, ht8, hlastM⟩ := forOf_strs hk
      have hLu : L.length = us.length := by rw [hL, strs_length]
      have hMu : M.length = vs.length := by rw [hM, strs_length]
      have HSA : Hid (∀ w, CellsS b w (.slice oa L.length cap) L → CellsS b w (.slice oa L.length cap) (strs us)) := fun w h => by rw [← hL]; exact h
      have HSB : Hid (∀ w, CellsS b2 w (.slice ob M.length bcap) M → CellsS b2 w (.slice ob M.length bcap) (strs vs)) := fun w h => by rw [← hM]; exact h
      have HLA := Lib.hid hlast
      have HLB := Lib.hid hlastM
      have HLU := Lib.hid hLu
      have HMU := Lib.hid hMu
      clear hG hH hf hk hL hM hlast hlastM HC HD hLu hMu
      obtain ⟨i0, hi, hz0, hz1, hz2⟩ := info_parts info_str
      obtain ⟨N, hN⟩ : ∃ N, N = max L.length M.length := ⟨_, rfl⟩
      have hN16 : N ≤ 16 := by have := HLU.out; have := HMU.out; omega
      have hJl : (comL us vs).length = N := by have := HLU.out; have := HMU.out; rw [comL_length]; omega
      have HJL := Lib.hid hJl
      have HNN := Lib.hid hN
      have HL8 := Lib.hid hl8
      have HS1 := Lib.hid hs8
      have HS2 := Lib.hid ht8
      clear hJl hN hs8 ht8
      go_enter Try.func30, Try.ntmps30
      go_wp2_with fail
      refine (hG' _ HA.out).mono ?_; rintro e w1 ⟨rfl, hb1⟩
      go_wp2_with fail
      refine (hH' _ (HB.out.keep hb1)).mono ?_; rintro e w2 ⟨rfl, hb2⟩
      replace hb2 := nx hb1 hb2
      go_wp2_with fail
      go_loopw [6, 7] (fun u i wr => ∃ (k : Nat) (ss : List ByteArray), k ≤ N ∧ i = .int .i64 k ∧ ss.length = k ∧ OwnS w2.heap.size wr u ss ∧ Hid (ss = strs ((comL us vs).take k)) ∧ Below w2.heap.size w2 wr) (fun _ i _ => N - (intOf i).toNat)
      case atStart => exact ⟨0, [], Nat.zero_le _, rfl, rfl, OwnS.nil _ _, rfl, Below.refl _ _⟩
      case round =>
        obtain ⟨k, ss, hk, rfl, hsl, hown, he, hbw⟩ := hrel
        by_cases hlt : k < N
        · have hkm : k < max us.length vs.length := by have := HNN.out; have := HLU.out; have := HMU.out; omega
          have hnext := take_strs1 (comL us vs) k (by have := HJL.out; omega)
          rw [comL_get us vs k hkm, ← he.out] at hnext
          have hTA := fun w h => foTree_any (.slice oa L.length cap) b us k w h (by omega)
          have hTB := fun w h => foTree_any (.slice ob M.length bcap) b2 vs k w h (by omega)
          have hJ := fun w => trCommon_any (us.getD k .lf) (vs.getD k .lf) w (carets_at us k (by have := HS1.out; omega)) (carets_at vs k (by have := HS2.out; omega))
          generalize us.getD k .lf = ta at *
          generalize vs.getD k .lf = tb at *
          generalize (ta.com tb).str = x at *
          have HX := Lib.hid hnext.symm
          have HSL := Lib.hid hsl
          have hss9 : ss.length ≤ 16 := by omega
          unfold OwnS at hown
          have hor : (k : Int) < (L.length : Int) ∨ (¬ (k : Int) < (L.length : Int) ∧ (k : Int) < (M.length : Int)) := by have := HNN.out; omega
          clear hnext he hsl hkm
          rcases hor with hor1 | ⟨hor1, hor2⟩
          · have hlt' : (k : Int) < 16 := by omega
            have hb4 := hbw
            go_wp2_with fail
            refine (hTA _ (HSA.out _ (HA.out.keep (nx hb2 hb4)))).mono ?_; rintro e w3 ⟨rfl, rfl⟩
            go_wp2_with fail
            refine (hTB _ (HSB.out _ (HB.out.keep (nx hb2 hb4)))).mono ?_; rintro e w4 ⟨rfl, rfl⟩
            go_wp2_with fail
            refine (hJ _).mono ?_; rintro e w5 ⟨rfl, hb5⟩
            have hown5 := ownsRow_keep hown hb5
            have hbw5 := nx hbw hb5
            clear hown hbw hb5 hb4
            go_wp2_with (at_builtin; refine wpList_append_own _ rfl _ _ 22 rfl w2.heap.size 9 i0 (.string ⟨#[]⟩) 1 16 Try.underlying22 hi hz0 hz1 hz2 rfl (by decide) _ _ _ rfl (hown5.alloc _) ⟨w5.heap.size, 0, none⟩ 1 1 [.string x] rfl rfl (new1 _ _ _) (oneS [x]) (by unfold maxLen; omega) (by omega) (size_al hbw5 _) ?_; intro v' w9 hown' hgrow hnn)
            have hbw9 := below_app hbw5 hown5 (Nat.le_refl _) hgrow
            have hown1 : OwnS w2.heap.size w9 v' (ss ++ [x]) := OwnS.app (B := [x]) hown'
            clear hown5 hown' hgrow hbw5 hnn
            go_wp2_with fail
            go_roundw
            case rel => exact ⟨k + 1, _, by omega, by go_num, by have := HSL.out; simp; omega, hown1, HX, hbw9⟩
            case measure => simp [intOf]; omega
          · have hlt' : (k : Int) < 16 := by omega
            have hb4 := hbw
            go_wp2_with fail
            refine (hTA _ (HSA.out _ (HA.out.keep (nx hb2 hb4)))).mono ?_; rintro e w3 ⟨rfl, rfl⟩
            go_wp2_with fail
            refine (hTB _ (HSB.out _ (HB.out.keep (nx hb2 hb4)))).mono ?_; rintro e w4 ⟨rfl, rfl⟩
            go_wp2_with fail
            refine (hJ _).mono ?_; rintro e w5 ⟨rfl, hb5⟩
            have hown5 := ownsRow_keep hown hb5
            have hbw5 := nx hbw hb5
            clear hown hbw hb5 hb4
            go_wp2_with (at_builtin; refine wpList_append_own _ rfl _ _ 22 rfl w2.heap.size 9 i0 (.string ⟨#[]⟩) 1 16 Try.underlying22 hi hz0 hz1 hz2 rfl (by decide) _ _ _ rfl (hown5.alloc _) ⟨w5.heap.size, 0, none⟩ 1 1 [.string x] rfl rfl (new1 _ _ _) (oneS [x]) (by unfold maxLen; omega) (by omega) (size_al hbw5 _) ?_; intro v' w9 hown' hgrow hnn)
            have hbw9 := below_app hbw5 hown5 (Nat.le_refl _) hgrow
            have hown1 : OwnS w2.heap.size w9 v' (ss ++ [x]) := OwnS.app (B := [x]) hown'
            clear hown5 hown' hgrow hbw5 hnn
            go_wp2_with fail
            go_roundw
            case rel => exact ⟨k + 1, _, by omega, by go_num, by have := HSL.out; simp; omega, hown1, HX, hbw9⟩
            case measure => simp [intOf]; omega
        · obtain rfl : k = N := by omega
          have h1 := he.out
          rw [List.take_of_length_le (by have := HJL.out; omega)] at h1
          have hno1 : ¬ ((k : Int) < (L.length : Int)) := by have := HNN.out; omega
          have hno2 : ¬ ((k : Int) < (M.length : Int)) := by have := HNN.out; omega
          subst h1
          have hF : ∀ u0 w, CellsS w2.heap.size w u0 (strs (comL us vs)) → Calls Try.prog 55 #[u0] w (AnsSs (comFo (some us) (some vs)) w) := fun u0 w h => by
            have h1 := foIf_any u0 w2.heap.size (comL us vs) w h (by have := comL_sum us vs; have := HS1.out; omega) (by have := HJL.out; omega)
            rw [comFo_ans us vs (by have := HLU.out; have := HL8.out; omega) HS1.out]
            exact h1
          clear he hsl
          go_wp2_with fail
          refine (hF _ _ hown.cells).mono ?_; rintro e w9 ⟨v9, own9, hb9, rfl⟩
          replace own9 := own9.mono (by have := nx hb2 hbw; exact this.size)
          go_wp2_with fail
          go_ret2
          exact ⟨_, own9, nx (nx hb2 hbw) hb9, rfl⟩

set_option maxRecDepth 100000 in
set_option maxHeartbeats 400000 in
theorem implJoinForests_any (v : Value) (b : Nat) (L : List ByteArray) (v2 : Value) (b2 : Nat) (M : List ByteArray) (w : World) (h : CellsS b w v L) (h2 : CellsS b2 w v2 M) (hz : ∀ s ∈ L, s.size ≤ 1048576) (hz2 : ∀ s ∈ M, s.size ≤ 1048576) (hn : L.length ≤ 1048576) (hn2 : M.length ≤ 1048576) :
    Calls Try.prog 27 #[v, v2] w (AnsSs (joinFo (forOf L) (forOf M)) w) := by
  have hH := implhungTwo_any v b L v2 b2 M w h h2 hz hz2 hn hn2
  obtain ⟨oa, cap, rfl, _⟩ := h.form0
  obtain ⟨ob, bcap, rfl, _⟩ := h2.form0
  clear h h2 hz hz2
  rcases hf : forOf L with _ | us
  · rw [hf] at hH
    have hH' : Calls Try.prog 51 #[.slice oa L.length cap, .slice ob M.length bcap] w (fun e w' => e = .returned (.tuple #[.pointer none, .pointer none, .bool false]) ∧ Below w.heap.size w w') := by cases forOf M <;> exact hH
    clear hH hf
    go_enter Try.func27, Try.ntmps27
    go_wp2_with fail
    refine hH'.mono ?_; rintro e w1 ⟨rfl, hb1⟩
    go_wp2_with fail
    go_ret2
    exact ⟨_, OwnS.nil _ _, hb1, rfl⟩
  · rcases hk : forOf M with _ | vs
    · rw [hf, hk] at hH
      have hH' : Calls Try.prog 51 #[.slice oa L.length cap, .slice ob M.length bcap] w (fun e w' => e = .returned (.tuple #[.pointer none, .pointer none, .bool false]) ∧ Below w.heap.size w w') := hH
      clear hH hf hk
      go_enter Try.func27, Try.ntmps27
      go_wp2_with fail
      refine hH'.mono ?_; rintro e w1 ⟨rfl, hb1⟩
      go_wp2_with fail
      go_ret2
      exact ⟨_, OwnS.nil _ _, hb1, rfl⟩
    · rw [hf, hk] at hH
      have hH' : Calls Try.prog 51 #[.slice oa L.length cap, .slice ob M.length bcap] w (fun e w' => ∃ b c, NodeAt w' (combT us) b ∧ NodeAt w' (combT vs) c ∧ Below w.heap.size w w' ∧ e = .returned (.tuple #[.pointer (some ⟨b, 0, none⟩), .pointer (some ⟨c, 0, none⟩), .bool true])) := hH
      have h1 := (forOf_strs hf).2
      have h2 := (forOf_strs hk).2
      have hcar : ((combT us).join (combT vs)).carets ≤ 1000 := by have := join_carets (combT us) (combT vs); have := combT_carets us; have := combT_carets vs; omega
      have hjc := join_comb us vs
      have hJ := fun b c w h k => join_any (combT us) (combT vs) b c w h k
      have hHg := fun b w h => hanging_any ((combT us).join (combT vs)) b w h hcar
      have hhang : hangT ((combT us).join (combT vs)) = joinF us vs := by rw [hjc]; unfold hangT; rw [sides_comb, joinF_strip h1.2.2 h2.2.2]
      rw [hhang] at hHg
      have hW := fun v b w h => withinLimitsF_any v b (joinF us vs) w h (by have := joinF_sum us vs; omega) (by rw [joinF_length]; omega)
      have HAN : Hid (AnsSs (joinFo (some us) (some vs)) = AnsS2 (if okF (joinF us vs) = true then strs (joinF us vs) else []) (okF (joinF us vs))) := by
        show _ = _
        rw [joinFo_ans us vs h1.2.2 h2.2.2, joinL_eq, joinF_strip h1.2.2 h2.2.2]
      generalize (combT us).join (combT vs) = T at *
      generalize joinF us vs = J at *
      clear hH hf hk h1 h2 hcar hjc hhang
      go_enter Try.func27, Try.ntmps27
      go_wp2_with fail
      refine hH'.mono ?_; rintro e w1 ⟨p1, p2, hp1, hp2, hb1, rfl⟩
      go_wp2_with fail
      refine (hJ p1 p2 _ hp1 hp2).mono ?_; rintro e w2 ⟨p3, hp3, hb2, rfl⟩
      replace hb2 := nx hb1 hb2
      go_wp2_with fail
      refine (hHg p3 _ hp3).mono ?_; rintro e w3 ⟨v3, own3, hb3, rfl⟩
      replace own3 := own3.mono hb2.size
      replace hb3 := nx hb2 hb3
      go_wp2_with fail
      refine (hW v3 _ _ own3.cells).mono ?_; rintro e w4 ⟨rfl, hb4⟩
      replace own3 := own3.keep hb4
      replace hb4 := nx hb3 hb4
      clear hJ hHg hW hp1 hp2 hp3
      have HAO := HAN.out
      cases hok : okF J with
      | true =>
        rw [hok, if_pos rfl] at HAO
        have HAP := Lib.hid HAO
        rw [if_pos rfl]
        clear HAO HAN hok
        go_wp2_with fail
        go_ret2
        rw [HAP.out]
        exact ⟨_, own3, hb4, rfl⟩
      | false =>
        rw [hok, if_neg (by decide)] at HAO
        have HAP := Lib.hid HAO
        rw [if_neg (by decide)]
        clear HAO HAN hok
        go_wp2_with fail
        go_ret2
        rw [HAP.out]
        exact ⟨_, OwnS.nil _ _, hb4, rfl⟩

set_option maxRecDepth 100000 in
set_option maxHeartbeats 400000 in
theorem implCommonForest_any (v : Value) (b : Nat) (L : List ByteArray) (v2 : Value) (b2 : Nat) (M : List ByteArray) (w : World) (h : CellsS b w v L) (h2 : CellsS b2 w v2 M) (hz : ∀ s ∈ L, s.size ≤ 1048576) (hz2 : ∀ s ∈ M, s.size ≤ 1048576) (hn : L.length ≤ 1048576) (hn2 : M.length ≤ 1048576) :
    Calls Try.prog 31 #[v, v2] w (AnsSs (comFo (forOf L) (forOf M)) w) := by
  have hH := implhungTwo_any v b L v2 b2 M w h h2 hz hz2 hn hn2
  obtain ⟨oa, cap, rfl, _⟩ := h.form0
  obtain ⟨ob, bcap, rfl, _⟩ := h2.form0
  clear h h2 hz hz2
  rcases hf : forOf L with _ | us
  · rw [hf] at hH
    have hH' : Calls Try.prog 51 #[.slice oa L.length cap, .slice ob M.length bcap] w (fun e w' => e = .returned (.tuple #[.pointer none, .pointer none, .bool false]) ∧ Below w.heap.size w w') := by cases forOf M <;> exact hH
    clear hH hf
    go_enter Try.func31, Try.ntmps31
    go_wp2_with fail
    refine hH'.mono ?_; rintro e w1 ⟨rfl, hb1⟩
    go_wp2_with fail
    go_ret2
    exact ⟨_, OwnS.nil _ _, hb1, rfl⟩
  · rcases hk : forOf M with _ | vs
    · rw [hf, hk] at hH
      have hH' : Calls Try.prog 51 #[.slice oa L.length cap, .slice ob M.length bcap] w (fun e w' => e = .returned (.tuple #[.pointer none, .pointer none, .bool false]) ∧ Below w.heap.size w w') := hH
      clear hH hf hk
      go_enter Try.func31, Try.ntmps31
      go_wp2_with fail
      refine hH'.mono ?_; rintro e w1 ⟨rfl, hb1⟩
      go_wp2_with fail
      go_ret2
      exact ⟨_, OwnS.nil _ _, hb1, rfl⟩
    · rw [hf, hk] at hH
      have hH' : Calls Try.prog 51 #[.slice oa L.length cap, .slice ob M.length bcap] w (fun e w' => ∃ b c, NodeAt w' (combT us) b ∧ NodeAt w' (combT vs) c ∧ Below w.heap.size w w' ∧ e = .returned (.tuple #[.pointer (some ⟨b, 0, none⟩), .pointer (some ⟨c, 0, none⟩), .bool true])) := hH
      have h1 := (forOf_strs hf).2
      have h2 := (forOf_strs hk).2
      have hcar : ((combT us).com (combT vs)).carets ≤ 1000 := by have := com_carets (combT us) (combT vs); have := combT_carets us; omega
      have hjc := com_comb us vs
      have hJ := fun b c w h k => common_any (combT us) (combT vs) b c w h k
      have hHg := fun b w h => hanging_any ((combT us).com (combT vs)) b w h hcar
      have hhang : hangT ((combT us).com (combT vs)) = stripT (comF us vs) := by rw [hjc]; unfold hangT; rw [sides_comb]
      rw [hhang] at hHg
      have HAN : Hid (AnsSs (comFo (some us) (some vs)) = AnsS2 (strs (stripT (comF us vs))) true) := rfl
      generalize (combT us).com (combT vs) = T at *
      generalize stripT (comF us vs) = J at *
      clear hH hf hk h1 h2 hcar hjc hhang
      go_enter Try.func31, Try.ntmps31
      go_wp2_with fail
      refine hH'.mono ?_; rintro e w1 ⟨p1, p2, hp1, hp2, hb1, rfl⟩
      go_wp2_with fail
      refine (hJ p1 p2 _ hp1 hp2).mono ?_; rintro e w2 ⟨p3, hp3, hb2, rfl⟩
      replace hb2 := nx hb1 hb2
      go_wp2_with fail
      refine (hHg p3 _ hp3).mono ?_; rintro e w3 ⟨v3, own3, hb3, rfl⟩
      replace own3 := own3.mono hb2.size
      replace hb3 := nx hb2 hb3
      clear hJ hHg hp1 hp2 hp3
      go_wp2_with fail
      go_ret2
      rw [HAN.out]
      exact ⟨_, own3, hb3, rfl⟩

end Go.Proofs.Ytplmbdljhgicfaa

/-! Ff16 -/
namespace Go.Proofs.Ytplmbdljhgicfaa
open Go.RowKit

def stackFo (o p : Option (List Tr)) : Option (List ByteArray) :=
  match o, p with
  | some us, some vs => if okF (stackF us vs) = true then some (strs (stackF us vs)) else none
  | _, _ => none
theorem stackFo_ans (us vs : List Tr) : AnsSs (stackFo (some us) (some vs)) = AnsS2 (if okF (stackF us vs) = true then strs (stackF us vs) else []) (okF (stackF us vs)) := by
  unfold AnsSs stackFo
  cases k : okF (stackF us vs) <;> simp [k]
theorem stackF_strip (us vs : List Tr) : stripT (stackF us vs) = stackF us vs := stripT_stripT _
def limV2 (ok : Bool) (v : Value) : Value := if ok = true then v else .slice none 0 0

set_option maxRecDepth 100000 in
set_option maxHeartbeats 400000 in
theorem specStackForests_any (v : Value) (b : Nat) (L : List ByteArray) (v2 : Value) (b2 : Nat) (M : List ByteArray) (w : World) (h : CellsS b w v L) (h2 : CellsS b2 w v2 M) (hz : ∀ s ∈ L, s.size ≤ 1048576) (hz2 : ∀ s ∈ M, s.size ≤ 1048576) (hn : L.length ≤ 1048576) (hn2 : M.length ≤ 1048576) :
    Calls Try.prog 39 #[v, v2] w (AnsSs (stackFo (forOf L) (forOf M)) w) := by
  have hG := fun w h => foGood_any v b L w h hz hn
  have hH := fun w h => foGood_any v2 b2 M w h hz2 hn2
  have HA := Lib.hid h
  have HB := Lib.hid h2
  obtain ⟨oa, cap, rfl, hcl, hcm, hcc⟩ := h.form0
  obtain ⟨ob, bcap, rfl, hdl, hdm, hdc⟩ := h2.form0
  unfold maxLen at hcm hdm
  have HC := Lib.hid hcc
  have HD := Lib.hid hdc
  clear h h2 hz hz2 hcc hdc
  rcases hf : forOf L with _ | us
  · rw [hf] at hG
    have hG' : ∀ w, CellsS b w (.slice oa L.length cap) L → Calls Try.prog 41 #[.slice oa L.length cap] w (Gives (.bool false) w) := hG
    clear hG hH hf HC HD
    go_enter Try.func39, Try.ntmps39
    go_wp2_with fail
    refine (hG' _ HA.out).mono ?_; rintro e w1 ⟨rfl, hb1⟩
    go_wp2_with fail
    go_ret2
    exact ⟨_, OwnS.nil _ _, hb1, rfl⟩
  · rcases hk : forOf M with _ | vs
    · rw [hf] at hG
      rw [hk] at hH
      have hG' : ∀ w, CellsS b w (.slice oa L.length cap) L → Calls Try.prog 41 #[.slice oa L.length cap] w (Gives (.bool true) w) := hG
      have hH' : ∀ w, CellsS b2 w (.slice ob M.length bcap) M → Calls Try.prog 41 #[.slice ob M.length bcap] w (Gives (.bool false) w) := hH
      clear hG hH hf hk HC HD
      go_enter Try.func39, Try.ntmps39
      go_wp2_with fail
      refine (hG' _ HA.out).mono ?_; rintro e w1 ⟨rfl, hb1⟩
      go_wp2_with fail
      refine (hH' _ (HB.out.keep hb1)).mono ?_; rintro e w2 ⟨rfl, hb2⟩
      replace hb2 := nx hb1 hb2
      go_wp2_with fail
      go_ret2
      exact ⟨_, OwnS.nil _ _, hb2, rfl⟩
    · rw [hf] at hG
      rw [hk] at hH
      have hG' : ∀ w, CellsS b w (.slice oa L.length cap) L → Calls Try.prog 41 #[.slice oa L.length cap] w (Gives (.bool true) w) := hG
      have hH' : ∀ w, CellsS b2 w (.slice ob M.length bcap) M → Calls Try.prog 41 #[.slice ob M.length bcap] w (Gives (.bool true) w) := hH
      obtain ⟨hL, hl8, hs8, hlast⟩ := forOf_strs hf
      obtain ⟨hM, hm8, ht8, hlastM⟩ := forOf_strs hk
      have hLu : L.length = us.length := by rw [hL, strs_length]
      have hMu : M.length = vs.length := by rw [hM, strs_length]
      have HSA : Hid (∀ w, CellsS b w (.slice oa L.length cap) L → CellsS b w (.slice oa L.length cap) (strs us)) := fun w h => by rw [← hL]; exact h
      have HSB : Hid (∀ w, CellsS b2 w (.slice ob M.length bcap) M → CellsS b2 w (.slice ob M.length bcap) (strs vs)) := fun w h => by rw [← hM]; exact h
      have HLA := Lib.hid hlast
      have HLB := Lib.hid hlastM
      have HLU := Lib.hid hLu
      have HMU := Lib.hid hMu
      clear hG hH hf hk hL hM hlast hlastM HC HD hLu hMu
      have hbd := stackF_bound us vs
      have hS := fun w h h' => foStack_any (.slice oa L.length cap) b us (.slice ob M.length bcap) b2 vs w h h' (by omega) (by omega) (by omega) (by omega)
      have hF : ∀ v b w, CellsS b w v (strs (stackF us vs)) → Calls Try.prog 55 #[v] w (AnsSs (stackFo (some us) (some vs)) w) := fun v b w h => by
        have h1 := foIf_any v b (stackF us vs) w h (by omega) (by omega)
        rw [stackF_strip] at h1
        rw [stackFo_ans]; exact h1
      clear hbd
      go_enter Try.func39, Try.ntmps39
      go_wp2_with fail
      refine (hG' _ HA.out).mono ?_; rintro e w1 ⟨rfl, hb1⟩
      go_wp2_with fail
      refine (hH' _ (HB.out.keep hb1)).mono ?_; rintro e w2 ⟨rfl, hb2⟩
      replace hb2 := nx hb1 hb2
      go_wp2_with fail
      refine (hS _ (HSA.out _ (HA.out.keep hb2)) (HSB.out _ (HB.out.keep hb2))).mono ?_; rintro e w3 ⟨v3, own3, hb3, rfl⟩
      replace hb3 := nx hb2 hb3
      go_wp2_with fail
      refine (hF v3 _ _ own3.cells).mono ?_; rintro e w4 ⟨v4, own4, hb4, rfl⟩
      go_wp2_with fail
      go_ret2
      exact ⟨_, own4.mono hb3.size, nx hb3 hb4, rfl⟩

set_option maxRecDepth 100000 in
set_option maxHeartbeats 400000 in
theorem implStackForests_any (v : Value) (b : Nat) (L : List ByteArray) (v2 : Value) (b2 : Nat) (M : List ByteArray) (w : World) (h : CellsS b w v L) (h2 : CellsS b2 w v2 M) (hz : ∀ s ∈ L, s.size ≤ 1048576) (hz2 : ∀ s ∈ M, s.size ≤ 1048576) (hn : L.length ≤ 1048576) (hn2 : M.length ≤ 1048576) :
    Calls Try.prog 40 #[v, v2] w (AnsSs (stackFo (forOf L) (forOf M)) w) := by
  have hG := fun w h => implIsForest_b v b L w h hz hn
  have hH := fun w h => implIsForest_b v2 b2 M w h hz2 hn2
  have HA := Lib.hid h
  have HB := Lib.hid h2
  obtain ⟨oa, cap, rfl, hcl, hcm, hcc⟩ := h.form0
  obtain ⟨ob, bcap, rfl, hdl, hdm, hdc⟩ := h2.form0
  unfold maxLen at hcm hdm
  have HC := Lib.hid hcc
  have HD := Lib.hid hdc
  clear h h2 hz hz2 hcc hdc
  rcases hf : forOf L with _ | us
  · rw [hf] at hG
    have hG' : ∀ w, CellsS b w (.slice oa L.length cap) L → Calls Try.prog 16 #[.slice oa L.length cap] w (Gives (.bool false) w) := hG
    clear hG hH hf HC HD
    go_enter Try.func40, Try.ntmps40
    go_wp2_with fail
    refine (hG' _ HA.out).mono ?_; rintro e w1 ⟨rfl, hb1⟩
    go_wp2_with fail
    go_ret2
    exact ⟨_, OwnS.nil _ _, hb1, rfl⟩
  · rcases hk : forOf M with _ | vs
    · rw [hf] at hG
      rw [hk] at hH
      have hG' : ∀ w, CellsS b w (.slice oa L.length cap) L → Calls Try.prog 16 #[.slice oa L.length cap] w (Gives (.bool true) w) := hG
      have hH' : ∀ w, CellsS b2 w (.slice ob M.length bcap) M → Calls Try.prog 16 #[.slice ob M.length bcap] w (Gives (.bool false) w) := hH
      clear hG hH hf hk HC HD
      go_enter Try.func40, Try.ntmps40
      go_wp2_with fail
      refine (hG' _ HA.out).mono ?_; rintro e w1 ⟨rfl, hb1⟩
      go_wp2_with fail
      refine (hH' _ (HB.out.keep hb1)).mono ?_; rintro e w2 ⟨rfl, hb2⟩
      replace hb2 := nx hb1 hb2
      go_wp2_with fail
      go_ret2
      exact ⟨_, OwnS.nil _ _, hb2, rfl⟩
    · rw [hf] at hG
      rw [hk] at hH
      have hG' : ∀ w, CellsS b w (.slice oa L.length cap) L → Calls Try.prog 16 #[.slice oa L.length cap] w (Gives (.bool true) w) := hG
      have hH' : ∀ w, CellsS b2 w (.slice ob M.length bcap) M → Calls Try.prog 16 #[.slice ob M.length bcap] w (Gives (.bool true) w) := hH
      obtain ⟨hL, hl8, hs8, hlast⟩ := forOf_strs hf
      obtain ⟨hM, hm8, ht8, hlastM⟩ := forOf_strs hk
      have hLu : L.length = us.length := by rw [hL, strs_length]
      have hMu : M.length = vs.length := by rw [hM, strs_length]
      have HSA : Hid (∀ w, CellsS b w (.slice oa L.length cap) L → CellsS b w (.slice oa L.length cap) (strs us)) := fun w h => by rw [← hL]; exact h
      have HSB : Hid (∀ w, CellsS b2 w (.slice ob M.length bcap) M → CellsS b2 w (.slice ob M.length bcap) (strs vs)) := fun w h => by rw [← hM]; exact h
      have HLA := Lib.hid hlast
      have HLB := Lib.hid hlastM
      have HLU := Lib.hid hLu
      have HMU := Lib.hid hMu
      clear hG hH hf hk hL hM hlast hlastM HC HD hLu hMu
      have hbd := stackF_bound us vs
      have hS := fun w h h' => stacked_any (.slice oa L.length cap) b us (.slice ob M.length bcap) b2 vs w h h' (by omega) (by omega) (by omega) (by omega)
      have hV : ∀ v b w, CellsS b w v (strs (stackF us vs)) → Calls Try.prog 56 #[v] w (fun e w' => e = .returned (.tuple #[limV2 (okF (stackF us vs)) v, .bool (okF (stackF us vs))]) ∧ Below w.heap.size w w') := fun v b w h => withinLimitsF_any v b (stackF us vs) w h (by omega) (by omega)
      have HAN := Lib.hid (stackFo_ans us vs)
      generalize okF (stackF us vs) = ok at *
      generalize stackF us vs = J at *
      clear hbd
      go_enter Try.func40, Try.ntmps40
      go_wp2_with fail
      refine (hG' _ HA.out).mono ?_; rintro e w1 ⟨rfl, hb1⟩
      go_wp2_with fail
      refine (hH' _ (HB.out.keep hb1)).mono ?_; rintro e w2 ⟨rfl, hb2⟩
      replace hb2 := nx hb1 hb2
      go_wp2_with fail
      refine (hS _ (HSA.out _ (HA.out.keep hb2)) (HSB.out _ (HB.out.keep hb2))).mono ?_; rintro e w3 ⟨v3, own3, hb3, rfl⟩
      replace own3 := own3.mono hb2.size
      replace hb3 := nx hb2 hb3
      go_wp2_with fail
      refine (hV v3 _ _ own3.cells).mono ?_; rintro e w4 ⟨rfl, hb4⟩
      replace own3 := own3.keep hb4
      replace hb4 := nx hb3 hb4
      cases ok with
      | true =>
        have HAP : Hid (AnsSs (stackFo (some us) (some vs)) = AnsS2 (strs J) true) := by show _ = _; rw [HAN.out, if_pos rfl]
        rw [show limV2 true v3 = v3 from rfl]
        clear HAN hV
        go_wp2_with fail
        go_ret2
        rw [HAP.out]
        exact ⟨_, own3, hb4, rfl⟩
      | false =>
        have HAP : Hid (AnsSs (stackFo (some us) (some vs)) = AnsS2 [] false) := by show _ = _; rw [HAN.out, if_neg (by decide)]
        rw [show limV2 false v3 = .slice none 0 0 from rfl]
        clear HAN hV
        go_wp2_with fail
        go_ret2
        rw [HAP.out]
        exact ⟨_, OwnS.nil _ _, hb4, rfl⟩

end Go.Proofs.Ytplmbdljhgicfaa

/-! WStackForests -/
namespace Go.Proofs.Ytplmbdljhgicfaa
open Go.RowKit
def StackForests_o (L M : List ByteArray) : Option (List ByteArray) := stackFo (forOf L) (forOf M)
theorem StackForests_len (L M : List ByteArray) : ((StackForests_o L M).getD []).length ≤ 1000000000 := by
  unfold StackForests_o stackFo
  rcases hf : forOf L with _ | us
  · simp
  · rcases hk : forOf M with _ | vs
    · simp
    · show ((if okF (stackF us vs) = true then some (strs (stackF us vs)) else none).getD []).length ≤ _
      split
      · next ho => have := (okF_iff.1 ho).1; rw [Option.getD_some, strs_length]; omega
      · simp

set_option maxRecDepth 100000 in
set_option maxHeartbeats 4000000 in
theorem fnExactStackForests_law (W : World) (a0 : Option Addr) (len0 cap0 : Nat) (L : List ByteArray) (hl0 : L.length = len0) (hm0 : (len0 : Int) ≤ 9223372036854775807) (hz0 : ∀ s ∈ L, (s.size : Int) ≤ 9223372036854775807) (hin0 : InS W a0 L) (a1 : Option Addr) (len1 cap1 : Nat) (M : List ByteArray) (hl1 : M.length = len1) (hm1 : (len1 : Int) ≤ 9223372036854775807) (hz1 : ∀ s ∈ M, (s.size : Int) ≤ 9223372036854775807) (hin1 : InS W a1 M) :
    Calls Try.prog 12 #[.slice a0 len0 cap0, .slice a1 len1 cap1] W fun e w' => e = .returned (.bool true) ∧ Below W.heap.size W w' := by
  have hsz0 := fun left h0 h1 => szStringS_at a0 cap0 len0 L left W h0 h1 hl0 hm0 hz0 hin0
  have hsz1 := fun left h0 h1 => szStringS_at a1 cap1 len1 M left W h0 h1 hl1 hm1 hz1 hin1
  have HI0 := Lib.hid hin0
  have HL0 := Lib.hid hl0
  clear hin0 hz0 hl0
  have HI1 := Lib.hid hin1
  have HL1 := Lib.hid hl1
  clear hin1 hz1 hl1
  go_enter Try.func12, Try.ntmps12
  go_wp2_with fail
  refine (hsz0 1048576 (by omega) (by omega)).mono ?_; rintro e w1 ⟨r0, rfl, rfl, hM0, hR0⟩
  by_cases hneg0 : r0 < 0
  · clear hM0 hR0
    go_wp2_with fail
    go_ret
    exact ⟨rfl, Below.refl _ _⟩
  have hM0' := hM0.out
  obtain ⟨hn0, hs0⟩ := hR0.out (by omega)
  have HS0 := Lib.hid hs0
  have HN0 := Lib.hid hn0
  clear hM0 hR0 hs0 hn0 hsz0
  go_wp2_with fail
  refine (hsz1 r0 (by omega) hM0').mono ?_; rintro e w1 ⟨r1, rfl, rfl, hM1, hR1⟩
  by_cases hneg1 : r1 < 0
  · clear hM1 hR1
    go_wp2_with fail
    go_ret
    exact ⟨rfl, Below.refl _ _⟩
  have hM1' := hM1.out
  obtain ⟨hn1, hs1⟩ := hR1.out (by omega)
  have HS1 := Lib.hid hs1
  have HN1 := Lib.hid hn1
  clear hM1 hR1 hs1 hn1 hsz1
  have hn9 := StackForests_len L M
  obtain ⟨o, ho⟩ : ∃ o, o = StackForests_o L M := ⟨_, rfl⟩
  have hS : ∀ (v0 : Value) (b0 : Nat) (v1 : Value) (b1 : Nat) (w : World), CellsS b0 w v0 L → CellsS b1 w v1 M → Calls Try.prog 39 #[v0, v1] w (AnsS2 (o.getD []) o.isSome w) := fun v0 b0 v1 b1 w h0 h1 => by rw [ho]; exact specStackForests_any v0 b0 L v1 b1 M w h0 h1 HS0.out HS1.out HN0.out HN1.out
  have hI : ∀ (v0 : Value) (b0 : Nat) (v1 : Value) (b1 : Nat) (w : World), CellsS b0 w v0 L → CellsS b1 w v1 M → Calls Try.prog 40 #[v0, v1] w (AnsS2 (o.getD []) o.isSome w) := fun v0 b0 v1 b1 w h0 h1 => by rw [ho]; exact implStackForests_any v0 b0 L v1 b1 M w h0 h1 HS0.out HS1.out HN0.out HN1.out
  rw [← ho] at hn9
  clear ho
  generalize o.getD [] = xs at hS hI hn9
  generalize o.isSome = ok at hS hI
  clear o
  have hT0 := fun w h => toStringS_any a0 cap0 len0 L w HL0.out (by have := HN0.out; have := HL0.out; omega) h
  have hN0 : len0 ≤ 1048576 := by have := HN0.out; have := HL0.out; omega
  have hT1 := fun w h => toStringS_any a1 cap1 len1 M w HL1.out (by have := HN1.out; have := HL1.out; omega) h
  have hN1 : len1 ≤ 1048576 := by have := HN1.out; have := HL1.out; omega
  clear HS0 HN0
  clear HS1 HN1
  have hc0 := Below.refl W.heap.size W
  go_wp2_with fail
  refine (hT0 _ (HI0.out.keep hc0)).mono ?_; rintro e u1 ⟨pg0, po0, hb, rfl⟩
  have hc1 := nx hc0 hb
  clear hb hc0
  go_wp2_with fail
  refine (hT1 _ (HI1.out.keep hc1)).mono ?_; rintro e u2 ⟨pg1, po1, hb, rfl⟩
  have hc2 := nx hc1 hb
  replace po0 := po0.keep hb
  clear hb hc1
  go_wp2_with fail
  refine (hS _ _ _ _ _ po0.cells po1.cells).mono ?_; rintro e u3 ⟨v0, own0, hb, rfl⟩
  clear po0 po1
  have hc3 := nx hc2 hb
  clear hb hc2
  have hd0 := Below.refl u3.heap.size u3
  have hcW := hc3
  go_wp2_with fail
  refine (hT0 _ (HI0.out.keep (nx hcW hd0))).mono ?_; rintro e u4 ⟨qg0, qo0, hb, rfl⟩
  have ql0 := qo0.lt
  have qs0 := hb.size
  have hd1 := nx hd0 hb
  clear hb hd0
  have qd0 := hd1.size
  go_wp2_with fail
  refine (hT1 _ (HI1.out.keep (nx hcW hd1))).mono ?_; rintro e u5 ⟨qg1, qo1, hb, rfl⟩
  have ql1 := qo1.lt
  have qs1 := hb.size
  have hd2 := nx hd1 hb
  replace qo0 := qo0.keep hb
  clear hb hd1
  have qd1 := hd2.size
  go_wp2_with fail
  refine (hI _ _ _ _ _ qo0.cells qo1.cells).mono ?_; rintro e u6 ⟨v1, own1, hb, rfl⟩
  have hszk := hb.size
  have hd3 := nx hd2 hb
  replace qo0 := qo0.keep hb
  replace qo1 := qo1.keep hb
  clear hb hd2
  go_wp2_with fail
  refine (eqStringS_any _ _ v1 v0 xs _ own1.cells (own0.keep hd3).cells).mono ?_; rintro e u7 ⟨rfl, dd, hw⟩
  have hb : Below u6.heap.size u6 u7 := by rw [hw]; exact drewB (Below.refl _ _) dd
  clear hw
  have hd4 := nx hd3 hb
  replace qo0 := qo0.keep hb
  replace qo1 := qo1.keep hb
  replace own1 := own1.keep hb
  replace hszk := Nat.le_trans hszk hb.size
  clear hb hd3
  go_wp2_with fail
  refine (hT0 _ (HI0.out.keep (nx hcW hd4))).mono ?_; rintro e u8 ⟨rg0, ro0, hb, rfl⟩
  have hd5 := nx hd4 hb
  replace qo0 := qo0.keep hb
  replace qo1 := qo1.keep hb
  replace own1 := own1.keep hb
  replace hszk := Nat.le_trans hszk hb.size
  clear hb hd4
  go_wp2_with fail
  refine (eqStringS_any _ _ _ _ L _ qo0.cells ro0.cells).mono ?_; rintro e u9 ⟨rfl, dd, hw⟩
  have hb : Below u8.heap.size u8 u9 := by rw [hw]; exact drewB (Below.refl _ _) dd
  clear hw
  have hd6 := nx hd5 hb
  replace qo0 := qo0.keep hb
  replace qo1 := qo1.keep hb
  replace own1 := own1.keep hb
  replace hszk := Nat.le_trans hszk hb.size
  clear hb hd5
  clear ro0
  go_wp2_with fail
  refine (hT1 _ (HI1.out.keep (nx hcW hd6))).mono ?_; rintro e u10 ⟨rg1, ro1, hb, rfl⟩
  have hd7 := nx hd6 hb
  replace qo0 := qo0.keep hb
  replace qo1 := qo1.keep hb
  replace own1 := own1.keep hb
  replace hszk := Nat.le_trans hszk hb.size
  clear hb hd6
  go_wp2_with fail
  refine (eqStringS_any _ _ _ _ M _ qo1.cells ro1.cells).mono ?_; rintro e u11 ⟨rfl, dd, hw⟩
  have hb : Below u10.heap.size u10 u11 := by rw [hw]; exact drewB (Below.refl _ _) dd
  clear hw
  have hd8 := nx hd7 hb
  replace qo0 := qo0.keep hb
  replace qo1 := qo1.keep hb
  replace own1 := own1.keep hb
  replace hszk := Nat.le_trans hszk hb.size
  clear hb hd7
  clear ro1
  go_wp2_with fail
  refine (markStringS_one1 _ qg0 _ len0 L HL0.out  _ (by omega) qo0).mono ?_; rintro e u12 ⟨rfl, _, hg⟩
  have hd9 := hd8.trans (grown_below hg hd8.size (by omega))
  replace qo1 := qo1.kept hg (by omega)
  replace own1 := own1.kept hg (by omega)
  replace hszk := Nat.le_trans hszk hg.size
  clear hg hd8 qo0
  go_wp2_with fail
  refine (markStringS_one _ qg1 _ len1 M HL1.out (1 + len0) _ (by omega) (by omega) (by omega) qo1).mono ?_; rintro e u13 ⟨rfl, _, hg⟩
  have hd10 := hd9.trans (grown_below hg hd9.size (by omega))
  replace own1 := own1.kept hg (by omega)
  replace hszk := Nat.le_trans hszk hg.size
  clear hg hd9 qo1
  go_wp2_with fail
  refine (eqStringS_any _ _ v1 v0 xs _ own1.cells (own0.keep hd10).cells).mono ?_; rintro e u14 ⟨rfl, dd, hw⟩
  have hb : Below u13.heap.size u13 u14 := by rw [hw]; exact drewB (Below.refl _ _) dd
  clear hw
  have hd11 := nx hd10 hb
  replace own1 := own1.keep hb
  replace hszk := Nat.le_trans hszk hb.size
  clear hb hd10
  go_wp2_with fail
  refine (markStringS_1 u5.heap.size v1 xs _ hn9 hszk own1).mono ?_; rintro e u15 ⟨rfl, own9, hb⟩
  have hd12 := hd11.trans (hb.mono (by omega))
  clear hb hd11 own1
  go_wp2_with fail
  refine (heldStringS_1 _ v1 xs.length _ hn9 own9.cells).mono ?_; rintro e u16 ⟨rfl, hb⟩
  have hd13 := nx hd12 hb
  replace own9 := own9.keep hb
  clear hb hd12
  go_wp2_with fail
  refine (hT0 _ (HI0.out.keep (nx hcW hd13))).mono ?_; rintro e u17 ⟨sg0, so0, hb, rfl⟩
  have sl0 := so0.lt
  have ss0 := hb.size
  have hd14 := nx hd13 hb
  replace own9 := own9.keep hb
  clear hb hd13
  have sd0 := hd14.size
  go_wp2_with fail
  refine (hT1 _ (HI1.out.keep (nx hcW hd14))).mono ?_; rintro e u18 ⟨sg1, so1, hb, rfl⟩
  have sl1 := so1.lt
  have ss1 := hb.size
  have hd15 := nx hd14 hb
  replace own9 := own9.keep hb
  replace so0 := so0.keep hb
  clear hb hd14
  have sd1 := hd15.size
  go_wp2_with fail
  refine (hI _ _ _ _ _ so0.cells so1.cells).mono ?_; rintro e u19 ⟨v2, own2, hb, rfl⟩
  clear so0 so1
  have hd16 := nx hd15 hb
  replace own9 := own9.keep hb
  clear hb hd15
  go_wp2_with fail
  refine (eqStringS_any _ _ v2 v0 xs _ own2.cells (own0.keep hd16).cells).mono ?_; rintro e u20 ⟨rfl, dd, hw⟩
  have hb : Below u19.heap.size u19 u20 := by rw [hw]; exact drewB (Below.refl _ _) dd
  clear hw
  have hd17 := nx hd16 hb
  replace own9 := own9.keep hb
  replace own2 := own2.keep hb
  clear hb hd16
  go_wp2_with fail
  refine (heldStringS_1 _ v1 xs.length _ hn9 own9.cells).mono ?_; rintro e u21 ⟨rfl, hb⟩
  have hd18 := nx hd17 hb
  replace own9 := own9.keep hb
  replace own2 := own2.keep hb
  clear hb hd17
  go_wp2_with fail
  go_ret
  exact ⟨rfl, nx hcW hd18⟩

theorem fnExactStackForests_walk (W : World) (a0 : Option Addr) (len0 cap0 : Nat) (z0 : List ByteArray) (h0 : IsStrs W a0 len0 cap0 z0) (a1 : Option Addr) (len1 cap1 : Nat) (z1 : List ByteArray) (h1 : IsStrs W a1 len1 cap1 z1) :
    Calls Try.prog 12 #[.slice a0 len0 cap0, .slice a1 len1 cap1] W fun e w' => e = .returned (.bool true) ∧ Below W.heap.size W w' := by
  obtain ⟨x0, y0, s0, t0⟩ := h0.inS
  obtain ⟨x1, y1, s1, t1⟩ := h1.inS
  exact fnExactStackForests_law W a0 len0 cap0 (z0.take len0) y0 s0 t0 x0 a1 len1 cap1 (z1.take len1) y1 s1 t1 x1

end Go.Proofs.Ytplmbdljhgicfaa

/-! LFnExactStackForests -/
namespace Go.Proofs.Ytplmbdljhgicfaa.fnExactStackForests
open Go.ChangeShapes Go.WideShapes Go.ChangeAt Go.RowKit
open Go.ChangeMaps (open_string shut_string)
set_option linter.unusedVariables false

theorem own : ownKnob Try.prog.godebug = none := by kernel_rfl
theorem laidOut : laidOutB Try.prog = true := by kernel_rfl

set_option maxRecDepth 100000 in
theorem lifted (os : Os) (started : os.Started) (H : Type) (enc : TypeId × Value → H) :
    ReturnsInHanded {} Try.checked os 12 .any (Rows.fnExactStackForestsSpec.pre6 enc Try.prog Try.f12 Rows.fnExactStackForestsRow.domain false) (Rows.fnExactStackForestsSpec.post enc Try.prog Try.f12 false true false false) := by
  refine returnsInHanded_of_change (C := Try.checked) own started (by kernel_rfl) Try.func12
    (ChangeSpec.witness6 (enc := enc) (C := Try.checked) false ⟨#[], #[.slice none 0 0, .slice none 0 0], []⟩ 8 (by kernel_rfl) (by kernel_rfl) (by kernel_rfl) (by kernel_rfl)) ?_
  intro W base args ds gs before hval0 hW hcnd _
  have hval : ∀ (j : Nat) t v, Try.f12.params[j]? = some t → args[j]? = some v → Value.okWide Try.prog W .any base t v := hval0
  have hW' := hW
  obtain ⟨p, q, hA0, hV, rfl, hfz, hnd⟩ := hW
  have hA : DataW.TrodAll enc Try.prog W 0 (fun _ => true) true Try.f12.params.toList args.toList ds p := hA0
  rw [Try.params12] at hA hval
  obtain ⟨v0, vs0, d0, ds0, p0, q0, hargs, rfl, rfl, h0, r0⟩ := trodAll_cons hA
  obtain ⟨v1, vs1, d1, ds1, p1, q1, rfl, rfl, rfl, h1, r1⟩ := trodAll_cons r0
  obtain ⟨rfl, rfl, rfl⟩ := trodAll_nil r1
  obtain rfl : args = #[v0, v1] := by cases args; simp_all
  obtain ⟨rfl, rfl⟩ := trodVars_none hV
  obtain ⟨a0, len0, cap0, rfl⟩ := okWide_slice Try.underlying22 (hval 0 22 v0 rfl rfl)
  have k0 := h0
  have lt0 : ∀ x ∈ p0, x.block < W.heap.size := by obtain ⟨m, hm⟩ := k0; exact DataW.trod_lt m _ _ _ hm
  obtain ⟨z0, w0⟩ : ∃ zs, IsStrs W a0 len0 cap0 zs := by
    obtain ⟨fuel, hf⟩ := h0
    rcases open_strings Try.underlying22 Try.underlying9 (by kernel_rfl) hf with ⟨hcs, _⟩ | ⟨x, l, c, zs, hcs, _, hl, hm, hz, _, hcell, hwz⟩
    · simp [Value.cells] at hcs
      obtain ⟨rfl, rfl, rfl⟩ := hcs
      exact ⟨[], .inl ⟨rfl, rfl, rfl, rfl⟩⟩
    · simp [Value.cells] at hcs
      obtain ⟨rfl, rfl, rfl⟩ := hcs
      exact ⟨zs, .inr ⟨_, rfl, hl, hm, by simpa using hz, hcell, hwz⟩⟩
  obtain ⟨a1, len1, cap1, rfl⟩ := okWide_slice Try.underlying22 (hval 1 22 v1 rfl rfl)
  have k1 := h1
  have lt1 : ∀ x ∈ p1, x.block < W.heap.size := by obtain ⟨m, hm⟩ := k1; exact DataW.trod_lt m _ _ _ hm
  obtain ⟨z1, w1⟩ : ∃ zs, IsStrs W a1 len1 cap1 zs := by
    obtain ⟨fuel, hf⟩ := h1
    rcases open_strings Try.underlying22 Try.underlying9 (by kernel_rfl) hf with ⟨hcs, _⟩ | ⟨x, l, c, zs, hcs, _, hl, hm, hz, _, hcell, hwz⟩
    · simp [Value.cells] at hcs
      obtain ⟨rfl, rfl, rfl⟩ := hcs
      exact ⟨[], .inl ⟨rfl, rfl, rfl, rfl⟩⟩
    · simp [Value.cells] at hcs
      obtain ⟨rfl, rfl, rfl⟩ := hcs
      exact ⟨zs, .inr ⟨_, rfl, hl, hm, by simpa using hz, hcell, hwz⟩⟩
  clear hA0 hval0
  simp only [List.append_nil] at hW'
  refine (fnExactStackForests_walk W a0 len0 cap0 z0 w0 a1 len1 cap1 z1 w1).mono fun e W' ⟨he, bel⟩ => ?_
  subst he
  exact ⟨_, rfl, _, _, _, [], _, [], hW', trodAll_mk1 (shut_bool Try.underlying4 _), (trodAll_cons_mk (Below.trod laidOut (by kernel_rfl) (of_decide_eq_true (by kernel_rfl)) k0 bel lt0) (trodAll_cons_mk (Below.trod laidOut (by kernel_rfl) (of_decide_eq_true (by kernel_rfl)) k1 bel lt1) trodAll_mk0)), rfl, bel.frame _, fun h => by cases h⟩

theorem over : Rows.fnExactStackForestsRow.holds Try.pinned (OpenSpec.ofChange Rows.fnExactStackForestsSpec) :=
  OpenClaim.holds_of_wide 12 Try.f12 rfl rfl rfl rfl rfl rfl rfl ⟨rfl, rfl, rfl, rfl, rfl⟩ rfl rfl rfl rfl rfl (by kernel_rfl) Try.func12 (by kernel_rfl)
    (of_decide_eq_true (by kernel_rfl)) (by unfold Func.isWrapper; first | (rw [if_pos (by decide +kernel)]; kernel_rfl) | (rw [if_neg (by decide +kernel)]; exact ⟨rfl, rfl⟩))
    (fun os started H enc _ => lifted os started H enc)

theorem proved : Rows.FnExactStackForestsSaid := over
#print axioms proved
end Go.Proofs.Ytplmbdljhgicfaa.fnExactStackForests
