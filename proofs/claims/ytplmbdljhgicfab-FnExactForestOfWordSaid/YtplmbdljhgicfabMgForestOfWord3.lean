/- FnExactForestOfWord: for every input the law returns true and leaves its arguments as they were. No conditions. -/
import Derived.Test.YtplmbdljhgicfabMgForestOfWord2
import Derived.WalkKit
import Derived.ProofKit
import Derived.OpenShut
import Derived.ShutString
import Derived.ChangeOld
import Derived.Below
/-! Ff14 -/
namespace Go.Proofs.Ytplmbdljhgicfab
open Go.RowKit

theorem cell_new (w : World) (cs : Array Value) (t : TypeId) (j : Nat) {u : Value} (h : cs[j]? = some u) : (w.alloc (.cells cs t (0, 0))).cell? ⟨w.heap.size, j, none⟩ = some u := by
  have := heap_alloc_at w (.cells cs t (0, 0))
  simp only [World.cell?, this]
  exact h
set_option maxRecDepth 100000 in
set_option maxHeartbeats 8000000 in
theorem stacked_any (v : Value) (b : Nat) (us : List Tr) (v2 : Value) (b2 : Nat) (vs : List Tr) (w : World) (h : CellsS b w v (strs us)) (h2 : CellsS b2 w v2 (strs vs)) (hs : sumT us ≤ 100) (ht : sumT vs ≤ 100) (hl : us.length ≤ 100) (hm : vs.length ≤ 100) :
    Calls Try.prog 66 #[v, v2] w (GivesOwn (strs (stackF us vs)) w) := by
  have HA := Lib.hid h
  have HB := Lib.hid h2
  obtain ⟨oa, cap, rfl, hcl, hcm, hcc⟩ := h.form0
  obtain ⟨ob, bcap, rfl, hdl, hdm, hdc⟩ := h2.form0
  unfold maxLen at hcm hdm
  simp only [strs_length] at *
  have hLv := fun w h => leavesIn_any (.slice oa us.length cap) b us w h (by omega) (by omega)
  have HC := Lib.hid hcc
  have HD := Lib.hid hdc
  clear h h2 hcc hdc
  obtain ⟨c, hc⟩ : ∃ c, c = min (leavesL us) vs.length := ⟨_, rfl⟩
  have hleq : leavesL us ≤ 200 := by unfold leavesL; omega
  have hc1 : c ≤ leavesL us := by omega
  have hc2 : c ≤ vs.length := by omega
  have hd1 : c ≤ bcap := by omega
  obtain ⟨r, hr⟩ : ∃ r, r = leavesL us - c := ⟨_, rfl⟩
  have hr0 : r ≤ 1000 := by omega
  have hri : (leavesL us : Int) - (c : Int) = (r : Int) := by omega
  have hmin : min (leavesL us : Int) (vs.length : Int) = (c : Int) := by omega
  have HCC := Lib.hid hc
  have HRR := Lib.hid hr
  generalize hleav : leavesL us = n at *
  have HLE := Lib.hid hleav
  clear hleav hc hr
  go_enter Try.func66, Try.ntmps66
  go_wp2_with fail
  refine (hLv _ HA.out).mono ?_; rintro e w1 ⟨rfl, hb1⟩
  have hcell : (w1.alloc (.cells #[.string ⟨#[46]⟩] 9 (0, 0))).cell? ⟨w1.heap.size, 0, none⟩ = some (.string ⟨#[46]⟩) := by
    have := heap_alloc_at w1 (.cells #[.string ⟨#[46]⟩] 9 (0, 0))
    simp only [World.cell?, this]; rfl
  have hb2 := nxAlloc hb1 (.cells #[.string ⟨#[46]⟩] 9 (0, 0))
  go_wp2_with fail
  refine (repeatS_any ⟨#[46]⟩ r w1.heap.size 1 _ hr0 hcell).mono ?_; rintro e w3 ⟨g3, own3, hb3, rfl⟩
  replace hb3 := nx hb2 hb3
  clear hcell
  have hd2 : (c : Int) ≤ (bcap : Int) := by omega
  have hd3 : (0 : Int) ≤ (c : Int) := by omega
  have hsl : (vs.drop c).length = vs.length - c := List.length_drop
  have hsd : sumT (vs.drop c) ≤ 100 := by have := sumT_app (vs.take c) (vs.drop c); rw [List.take_append_drop] at this; omega
  have hst : sumT (vs.take c) ≤ 100 := by have := sumT_app (vs.take c) (vs.drop c); rw [List.take_append_drop] at this; omega
  have hHU : ∀ (o2 : Option Addr) (cap2 : Nat) (w' : World), (∀ i, i < (vs.drop c).length → ∃ g off, o2 = some ⟨g, off, none⟩ ∧ g < w'.heap.size ∧ w'.cell? ⟨g, off + i, none⟩ = some (.string ((strs (vs.drop c))[i]?.getD ⟨#[]⟩))) → Calls Try.prog 93 #[.slice o2 ((vs.length - c : Nat) : Nat) cap2] w' (Gives (.string (combT (vs.drop c)).str) w') := fun o2 cap2 w' hI => by
    have h1 := hungO_any o2 cap2 (vs.drop c) w' hI (by omega) (by omega)
    rw [hsl] at h1; exact h1
  -- what the leaves are handed
  obtain ⟨WS, hWS⟩ : ∃ WS, WS = vs.take c ++ (List.replicate r .lf ++ [combT (vs.drop c)]) := ⟨_, rfl⟩
  have hk1 := combT_carets us
  have hk2 := combT_carets (vs.drop c)
  have hWl : WS.length = (combT us).leaves := by
    have e1 := HLE.out
    have e2 := HRR.out
    rw [hWS]; unfold leavesL at e1; unfold Tr.leaves
    simp; omega
  have hWsum : sumC WS ≤ 301 := by
    rw [hWS, sumC_append, sumC_append, sumC_eq, sumC_eq, sumT_lf, sumC_cons]
    have : sumC ([] : List Tr) = 0 := rfl
    omega
  have hfc := fill_carets (combT us) WS hWl
  have hflat : strs WS = (strs vs).take c ++ (List.replicate r (⟨#[46]⟩ : ByteArray) ++ [(combT (vs.drop c)).str]) := by
    rw [hWS]; unfold strs
    rw [List.map_append, List.map_append, List.map_take, List.map_replicate]; rfl
  have hft := fill_text (combT us) WS hWl
  have hfb := fillB_tr (combT us) WS hWl
  have hsz := (combT us).str_size
  have hdots := text_dots (combT us)
  have hW : ∀ v b w', CellsS b w' v (strs WS) → Calls Try.prog 113 #[.string (combT us).str, v] w' (Gives (.string ((combT us).fill WS).str) w') := fun v b w' h => by
    have hfl : fillL (combT us).str.data.toList (strs WS) = ((combT us).fill WS).text := by rw [Tr.str_list]; exact hft
    have h1 := withLeaves_any b (combT us).str v (strs WS) w' (by omega) h (by rw [Tr.str_list, hdots, strs_length, hWl]; unfold Tr.leaves; exact Nat.le_refl _) (by rw [strs_length, hWl]; unfold Tr.leaves; omega) (by rw [hfl, Tr.text_len, hfc]; omega) (by rw [hfl]; intro e; have := congrArg List.length e; rw [Tr.text_len] at this; simp at this)
    rw [show fillB (combT us).str (strs WS) = ((combT us).fill WS).str from hfb] at h1
    exact h1
  have hTO := fun w' => treeOf_any ((combT us).fill WS) w' (by rw [hfc]; omega)
  have hHg := fun b w' h => hanging_any ((combT us).fill WS) b w' h (by rw [hfc]; omega)
  have hfin : hangT ((combT us).fill WS) = stackF us vs := by
    rw [hWS, HRR.out, ← HLE.out]
    exact stack_hang us vs c (by rw [HLE.out]; exact HCC.out)
  rw [hfin] at hHg
  have hF := fun w' h => hung_any (.slice oa us.length cap) b us w' h (by omega) (by omega)
  have hparts : (strs vs).take c ++ (List.replicate r (⟨#[46]⟩ : ByteArray) ++ [(combT (vs.drop c)).str]) = [(strs vs).take c, List.replicate r (⟨#[46]⟩ : ByteArray), [(combT (vs.drop c)).str]].flatten := by simp
  rw [hparts] at hflat
  have hWl2 : (strs WS).length ≤ 300 := by rw [strs_length, hWl]; unfold Tr.leaves; omega
  have hsrcA : ∀ w', Below w3.heap.size w3 w' → SrcT w' (.slice ob c bcap) ((strs vs).take c) := fun w' hb => by
    have hbb := nx hb3 hb
    have htl : ((strs vs).take c).length = c := by rw [List.length_take, strs_length]; omega
    refine ⟨?_, ob, bcap, by rw [htl]⟩
    rcases (HB.out.keep hbb) with ⟨h0, h1⟩ | ⟨g, cap', h0, h1⟩
    · injection h0 with e1 e2 e3
      subst e1 e3
      obtain rfl : c = 0 := by omega
      exact .inl ⟨rfl, by simp⟩
    · injection h0 with e1 e2 e3
      subst e1 e3
      have hB2 := HB.out.keep hbb
      exact src_cells hB2 c (by rw [strs_length]; omega) bcap
  have hsrcB : ∀ w', Below w3.heap.size w3 w' → SrcT w' (.slice (some ⟨g3, 0, none⟩) r r) (List.replicate r (⟨#[46]⟩ : ByteArray)) := fun w' hb => by
    have h1 := own3.keep hb
    have hrl : (List.replicate r (⟨#[46]⟩ : ByteArray)).length = r := List.length_replicate
    have h2 := src_cells h1.cells r (by rw [hrl]; exact Nat.le_refl _) r
    rw [List.take_of_length_le (by rw [hrl]; exact Nat.le_refl _)] at h2
    exact ⟨h2, _, _, by rw [hrl]⟩
  generalize hTT : (combT (vs.drop c)).str = B at *
  generalize (combT us).str = U at *
  generalize (combT us).fill WS = FT at *
  generalize stackF us vs = J at *
  generalize strs WS = X at *
  have HX := Lib.hid hflat
  clear hflat hparts hft hfb hsz hdots hfin hfc hWsum hWl hWS hk1 hk2 hst hTT
  have hcs : (c : Int) ≤ (vs.length : Int) := by omega
  by_cases hcb : c = bcap
  · subst hcb
    have hz1 : vs.length - c = 0 := by omega
    have hHV : ∀ (o2 : Option Addr) (cap2 : Nat) (w' : World), Calls Try.prog 93 #[.slice o2 0 cap2] w' (Gives (.string B) w') := fun o2 cap2 w' => by
      have h1 := hHU o2 cap2 w' (fun i hi => by rw [hsl] at hi; omega)
      rw [hz1] at h1; exact h1
    clear hHU hsl hsd hz1
    go_wp2_with fail
    refine (hHV _ _ _).mono ?_; rintro e w4 ⟨rfl, hb4⟩
    clear hHV
    try go_wp2_with fail
    refine wp_region_held_drew (S := fun (w' : World) => Below w4.heap.size w4 w') (by kernel_rfl) (Below.refl w4.heap.size w4).drew (fun hH0 => ?_)
    refine wpAnyH_take (i := 0) (oi := ?oi301) (v := ?vv301) ?hi301 ?hn301 ?hf301 ?hr301 ?hq301 (Or.inl ⟨?hg301, ?hy301⟩) hH0 ?rest301
    case hi301 => (simp only [List.getElem?_toArray, List.getElem?_cons_zero]; rfl)
    case hn301 => kernel_rfl
    case hf301 => kernel_rfl
    case hr301 => kernel_rfl
    case hg301 => rfl
    case hy301 => (intro w hSw; (try dsimp only at hSw); go_simp; first | done | with_reducible rfl)
    case hq301 => exact fun _ _ _ h => h
    try dsimp only [Act.put]
    refine wpAnyH_take (i := 2) (oi := ?oi302) (v := ?vv302) ?hi302 ?hn302 ?hf302 ?hr302 ?hq302 (Or.inl ⟨?hg302, ?hy302⟩) hH0 ?rest302
    case hi302 => (simp only [List.getElem?_toArray, List.getElem?_cons_succ, List.getElem?_cons_zero]; rfl)
    case hn302 => kernel_rfl
    case hf302 => kernel_rfl
    case hr302 => kernel_rfl
    case hg302 => rfl
    case hy302 => (intro w hSw; (try dsimp only at hSw); go_simp; first | done | with_reducible rfl)
    case hq302 => exact fun _ _ _ h => h
    try dsimp only [Act.put]
    refine wpAnyH_take (i := 3) (oi := ?oi303) (v := ?vv303) ?hi303 ?hn303 ?hf303 ?hr303 ?hq303 (Or.inl ⟨?hg303, ?hy303⟩) hH0 ?rest303
    case hi303 => (simp only [List.getElem?_toArray, List.getElem?_cons_succ, List.getElem?_cons_zero]; rfl)
    case hn303 => kernel_rfl
    case hf303 => kernel_rfl
    case hr303 => kernel_rfl
    case hg303 => rfl
    case hy303 => (intro w hSw; (try dsimp only at hSw); go_simp; first | done | with_reducible rfl)
    case hq303 => exact fun _ _ _ h => h
    try dsimp only [Act.put]
    refine wpAnyH_take (i := 4) (oi := ?oi304) (v := ?vv304) ?hi304 ?hn304 ?hf304 ?hr304 ?hq304 (Or.inl ⟨?hg304, ?hy304⟩) hH0 ?rest304
    case hi304 => (simp only [List.getElem?_toArray, List.getElem?_cons_succ, List.getElem?_cons_zero]; rfl)
    case hn304 => kernel_rfl
    case hf304 => kernel_rfl
    case hr304 => kernel_rfl
    case hg304 => rfl
    case hy304 => (intro w hSw; (try dsimp only at hSw); go_simp; first | done | with_reducible rfl)
    case hq304 => exact fun _ _ _ h => h
    try dsimp only [Act.put]
    refine wpAnyH_take (i := 5) (oi := ?oi305) (v := ?vv305) ?hi305 ?hn305 ?hf305 ?hr305 ?hq305 (Or.inl ⟨?hg305, ?hy305⟩) hH0 ?rest305
    case hi305 => (simp only [List.getElem?_toArray, List.getElem?_cons_succ, List.getElem?_cons_zero]; rfl)
    case hn305 => kernel_rfl
    case hf305 => kernel_rfl
    case hr305 => kernel_rfl
    case hg305 => rfl
    case hy305 => (intro w hSw; (try dsimp only at hSw); go_simp; first | done | with_reducible rfl)
    case hq305 => exact fun _ _ _ h => h
    try dsimp only [Act.put]
    refine wpAnyH_take (i := 6) (oi := ?oi306) (v := ?vv306) ?hi306 ?hn306 ?hf306 ?hr306 ?hq306 (Or.inl ⟨?hg306, ?hy306⟩) hH0 ?rest306
    case hi306 => (simp only [List.getElem?_toArray, List.getElem?_cons_succ, List.getElem?_cons_zero]; rfl)
    case hn306 => kernel_rfl
    case hf306 => kernel_rfl
    case hr306 => kernel_rfl
    case hg306 => rfl
    case hy306 => (intro w hSw; (try dsimp only at hSw); go_simp; first | done | with_reducible rfl)
    case hq306 => exact fun _ _ _ h => h
    try dsimp only [Act.put]
    refine held_two 1 7 rfl rfl (by kernel_rfl) (fun K hK => ?_) (fun K hK => ?_)
    · go_simp
      refine (hF _ (HA.out.keep (nx (nx hb3 hb4) (hH0)))).mono ?_; rintro e W307 ⟨rfl, hb307⟩
      go_wp2_with fail
      have hW307 : (fun (w' : World) => Below w4.heap.size w4 w') W307 := nx hH0 hb307
      refine hK.out (fun (w' : World) => Below w4.heap.size w4 w') _ _ (fun _ h => h) hW307 ?_
      clear hK K
      try dsimp only [Act.put]
      refine held_one 7 rfl (by kernel_rfl) (fun K hK => ?_)
      go_simp
      refine (fun (H : ∀ W : World, (fun (w' : World) => (Below w4.heap.size w4 w' ∧ w'.cell? ⟨W307.heap.size, 0, none⟩ = some (.string B))) W → K _ W) => H _ ?hH308) (fun W308 hW308 => ?main308)
      case hH308 =>
        exact ⟨nx hW307 (nxAlloc (Below.refl W307.heap.size W307) (.cells #[.string B] 9 (0, 0))), cell_new _ _ _ 0 rfl⟩
      case main308 =>
      refine hK.out (fun (w' : World) => (Below w4.heap.size w4 w' ∧ w'.cell? ⟨W307.heap.size, 0, none⟩ = some (.string B))) _ _ (fun _ h => h.1) hW308 ?_
      clear hK K
      try dsimp only [Act.put]
      refine held_one 8 rfl (by kernel_rfl) (fun K hK => ?_)
      go_simp
      refine (fun (H : ∀ W : World, (fun (w' : World) => ((Below w4.heap.size w4 w' ∧ w'.cell? ⟨W307.heap.size, 0, none⟩ = some (.string B)) ∧ (w'.cell? ⟨W308.heap.size, 0, none⟩ = some (.slice ob c c) ∧ w'.cell? ⟨W308.heap.size, 1, none⟩ = some (.slice (some ⟨g3, 0, none⟩) r r) ∧ w'.cell? ⟨W308.heap.size, 2, none⟩ = some (.slice (some ⟨W307.heap.size, 0, none⟩) 1 1)))) W → K _ W) => H _ ?hH309) (fun W309 hW309 => ?main309)
      case hH309 =>
        exact ⟨⟨nx hW308.1 (nxAlloc (Below.refl W308.heap.size W308) (.cells #[.slice ob c c, .slice (some ⟨g3, 0, none⟩) r r, .slice (some ⟨W307.heap.size, 0, none⟩) 1 1] 22 (0, 0))), keep_cell (nxAlloc (Below.refl W308.heap.size W308) (.cells #[.slice ob c c, .slice (some ⟨g3, 0, none⟩) r r, .slice (some ⟨W307.heap.size, 0, none⟩) 1 1] 22 (0, 0))) hW308.2⟩, cell_new _ _ _ 0 rfl, cell_new _ _ _ 1 rfl, cell_new _ _ _ 2 rfl⟩
      case main309 =>
      refine hK.out (fun (w' : World) => ((Below w4.heap.size w4 w' ∧ w'.cell? ⟨W307.heap.size, 0, none⟩ = some (.string B)) ∧ (w'.cell? ⟨W308.heap.size, 0, none⟩ = some (.slice ob c c) ∧ w'.cell? ⟨W308.heap.size, 1, none⟩ = some (.slice (some ⟨g3, 0, none⟩) r r) ∧ w'.cell? ⟨W308.heap.size, 2, none⟩ = some (.slice (some ⟨W307.heap.size, 0, none⟩) 1 1)))) _ _ (fun _ h => h.1) hW309 ?_
      clear hK K
      try dsimp only [Act.put]
      have hbl := hW309.1.1
      have hPt : PartsS W309 W308.heap.size [.slice ob c c, .slice (some ⟨g3, 0, none⟩) r r, .slice (some ⟨W307.heap.size, 0, none⟩) 1 1] [(strs vs).take c, List.replicate r (⟨#[46]⟩ : ByteArray), [B]] := by
        refine ⟨World.block_lt_of_cell? W309 _ hW309.2.1, rfl, fun i hi => ?_⟩
        match i, hi with
        | 0, _ => exact ⟨hW309.2.1, hsrcA _ (nx hb4 hbl)⟩
        | 1, _ => exact ⟨hW309.2.2.1, hsrcB _ (nx hb4 hbl)⟩
        | 2, _ =>
          refine ⟨hW309.2.2.2, ⟨.inr ⟨⟨W307.heap.size, 0, none⟩, 1, rfl, fun j x hj => ?_⟩, _, _, rfl⟩⟩
          match j, hj with
          | 0, hj => simp at hj; subst hj; exact hW309.1.2
          | j + 1, hj => simp at hj
      refine held_one 9 rfl (by kernel_rfl) (fun K hK => ?_)
      go_simp
      refine (concatS_any W308.heap.size 3 _ _ W309 hPt rfl (by omega) (by rw [← HX.out]; omega)).mono ?_; rintro e W5 ⟨v5, own5, hb, rfl⟩
      rw [← HX.out] at own5
      go_wp2_with fail
      have hL5 : (fun (w' : World) => ((Below w4.heap.size w4 w' ∧ w'.cell? ⟨W307.heap.size, 0, none⟩ = some (.string B)) ∧ (w'.cell? ⟨W308.heap.size, 0, none⟩ = some (.slice ob c c) ∧ w'.cell? ⟨W308.heap.size, 1, none⟩ = some (.slice (some ⟨g3, 0, none⟩) r r) ∧ w'.cell? ⟨W308.heap.size, 2, none⟩ = some (.slice (some ⟨W307.heap.size, 0, none⟩) 1 1)))) W5 := ⟨⟨nx hW309.1.1 hb, keep_cell hb hW309.1.2⟩, keep_cell hb hW309.2.1, keep_cell hb hW309.2.2.1, keep_cell hb hW309.2.2.2⟩
      refine hK.out (fun (w' : World) => ((Below w4.heap.size w4 w' ∧ w'.cell? ⟨W307.heap.size, 0, none⟩ = some (.string B)) ∧ (w'.cell? ⟨W308.heap.size, 0, none⟩ = some (.slice ob c c) ∧ w'.cell? ⟨W308.heap.size, 1, none⟩ = some (.slice (some ⟨g3, 0, none⟩) r r) ∧ w'.cell? ⟨W308.heap.size, 2, none⟩ = some (.slice (some ⟨W307.heap.size, 0, none⟩) 1 1)))) _ _ (fun _ h => h) hL5 ?_
      clear hK K hb
      try dsimp only [Act.put]
      refine held_one 10 rfl (by kernel_rfl) (fun K hK => ?_)
      go_simp
      refine (hW v5 _ W5 own5.cells).mono ?_; rintro e W6 ⟨rfl, hb⟩
      go_wp2_with fail
      have hL6 : (fun (w' : World) => ((Below w4.heap.size w4 w' ∧ w'.cell? ⟨W307.heap.size, 0, none⟩ = some (.string B)) ∧ (w'.cell? ⟨W308.heap.size, 0, none⟩ = some (.slice ob c c) ∧ w'.cell? ⟨W308.heap.size, 1, none⟩ = some (.slice (some ⟨g3, 0, none⟩) r r) ∧ w'.cell? ⟨W308.heap.size, 2, none⟩ = some (.slice (some ⟨W307.heap.size, 0, none⟩) 1 1)))) W6 := ⟨⟨nx hL5.1.1 hb, keep_cell hb hL5.1.2⟩, keep_cell hb hL5.2.1, keep_cell hb hL5.2.2.1, keep_cell hb hL5.2.2.2⟩
      refine hK.out (fun (w' : World) => ((Below w4.heap.size w4 w' ∧ w'.cell? ⟨W307.heap.size, 0, none⟩ = some (.string B)) ∧ (w'.cell? ⟨W308.heap.size, 0, none⟩ = some (.slice ob c c) ∧ w'.cell? ⟨W308.heap.size, 1, none⟩ = some (.slice (some ⟨g3, 0, none⟩) r r) ∧ w'.cell? ⟨W308.heap.size, 2, none⟩ = some (.slice (some ⟨W307.heap.size, 0, none⟩) 1 1)))) _ _ (fun _ h => h) hL6 ?_
      clear hK K hb
      try dsimp only [Act.put]
      refine held_one 11 rfl (by kernel_rfl) (fun K hK => ?_)
      go_simp
      refine (hTO _).mono ?_; rintro e W7 ⟨p7, hp7, hb, rfl⟩
      go_wp2_with fail
      have hL7 : (fun (w' : World) => ((Below w4.heap.size w4 w' ∧ w'.cell? ⟨W307.heap.size, 0, none⟩ = some (.string B)) ∧ (w'.cell? ⟨W308.heap.size, 0, none⟩ = some (.slice ob c c) ∧ w'.cell? ⟨W308.heap.size, 1, none⟩ = some (.slice (some ⟨g3, 0, none⟩) r r) ∧ w'.cell? ⟨W308.heap.size, 2, none⟩ = some (.slice (some ⟨W307.heap.size, 0, none⟩) 1 1)))) W7 := ⟨⟨nx hL6.1.1 hb, keep_cell hb hL6.1.2⟩, keep_cell hb hL6.2.1, keep_cell hb hL6.2.2.1, keep_cell hb hL6.2.2.2⟩
      refine hK.out (fun (w' : World) => ((Below w4.heap.size w4 w' ∧ w'.cell? ⟨W307.heap.size, 0, none⟩ = some (.string B)) ∧ (w'.cell? ⟨W308.heap.size, 0, none⟩ = some (.slice ob c c) ∧ w'.cell? ⟨W308.heap.size, 1, none⟩ = some (.slice (some ⟨g3, 0, none⟩) r r) ∧ w'.cell? ⟨W308.heap.size, 2, none⟩ = some (.slice (some ⟨W307.heap.size, 0, none⟩) 1 1)))) _ _ (fun _ h => h) hL7 ?_
      clear hK K hb
      try dsimp only [Act.put]
      refine held_one 12 rfl (by kernel_rfl) (fun K hK => ?_)
      go_simp
      refine (hHg p7 W7 hp7).mono ?_; rintro e W8 ⟨v8, own8, hb, rfl⟩
      go_wp2_with fail
      have hL8 : (fun (w' : World) => ((Below w4.heap.size w4 w' ∧ w'.cell? ⟨W307.heap.size, 0, none⟩ = some (.string B)) ∧ (w'.cell? ⟨W308.heap.size, 0, none⟩ = some (.slice ob c c) ∧ w'.cell? ⟨W308.heap.size, 1, none⟩ = some (.slice (some ⟨g3, 0, none⟩) r r) ∧ w'.cell? ⟨W308.heap.size, 2, none⟩ = some (.slice (some ⟨W307.heap.size, 0, none⟩) 1 1)))) W8 := ⟨⟨nx hL7.1.1 hb, keep_cell hb hL7.1.2⟩, keep_cell hb hL7.2.1, keep_cell hb hL7.2.2.1, keep_cell hb hL7.2.2.2⟩
      refine hK.out (fun (w' : World) => ((Below w4.heap.size w4 w' ∧ w'.cell? ⟨W307.heap.size, 0, none⟩ = some (.string B)) ∧ (w'.cell? ⟨W308.heap.size, 0, none⟩ = some (.slice ob c c) ∧ w'.cell? ⟨W308.heap.size, 1, none⟩ = some (.slice (some ⟨g3, 0, none⟩) r r) ∧ w'.cell? ⟨W308.heap.size, 2, none⟩ = some (.slice (some ⟨W307.heap.size, 0, none⟩) 1 1)))) _ _ (fun _ h => h) hL8 ?_
      clear hK K hb
      try dsimp only [Act.put]
      refine wpAnyH_take (i := 13) (oi := ?oi310) (v := ?vv310) ?hi310 ?hn310 ?hf310 ?hr310 ?hq310 (Or.inl ⟨?hg310, ?hy310⟩) hL8 ?rest310
      case hi310 => (simp only [List.getElem?_toArray, List.getElem?_cons_succ, List.getElem?_cons_zero]; rfl)
      case hn310 => kernel_rfl
      case hf310 => kernel_rfl
      case hr310 => kernel_rfl
      case hg310 => rfl
      case hy310 => (intro w hSw; (try dsimp only at hSw); go_simp; first | done | with_reducible rfl)
      case hq310 => exact fun _ _ _ h => h
      try dsimp only [Act.put]
      refine wpAnyH_done (by kernel_rfl) ?_ _
      try simp only [List.setIfInBounds_toArray, List.set_cons_zero, List.set_cons_succ]
      have hbz := nx (nx hb3 hb4) (hL8.1.1)
      have hbz7 := nx (nx hb3 hb4) (hL7.1.1)
      replace own8 := own8.mono hbz7.size
      go_wp2_with fail
      go_ret
      exact ⟨_, own8, hbz, rfl⟩
    · go_simp
      refine (fun (H : ∀ W : World, (fun (w' : World) => (Below w4.heap.size w4 w' ∧ w'.cell? ⟨w4.heap.size, 0, none⟩ = some (.string B))) W → K _ W) => H _ ?hH311) (fun W311 hW311 => ?main311)
      case hH311 =>
        exact ⟨nx hH0 (nxAlloc (Below.refl w4.drew.heap.size w4.drew) (.cells #[.string B] 9 (0, 0))), cell_new _ _ _ 0 rfl⟩
      case main311 =>
      refine hK.out (fun (w' : World) => (Below w4.heap.size w4 w' ∧ w'.cell? ⟨w4.heap.size, 0, none⟩ = some (.string B))) _ _ (fun _ h => h.1) hW311 ?_
      clear hK K
      try dsimp only [Act.put]
      refine held_two 1 8 rfl rfl (by kernel_rfl) (fun K hK => ?_) (fun K hK => ?_)
      · go_simp
        refine (hF _ (HA.out.keep (nx (nx hb3 hb4) (hW311.1)))).mono ?_; rintro e W312 ⟨rfl, hb312⟩
        go_wp2_with fail
        have hW312 : (fun (w' : World) => (Below w4.heap.size w4 w' ∧ w'.cell? ⟨w4.heap.size, 0, none⟩ = some (.string B))) W312 := ⟨nx hW311.1 hb312, keep_cell hb312 hW311.2⟩
        refine hK.out (fun (w' : World) => (Below w4.heap.size w4 w' ∧ w'.cell? ⟨w4.heap.size, 0, none⟩ = some (.string B))) _ _ (fun _ h => h) hW312 ?_
        clear hK K
        try dsimp only [Act.put]
        refine held_one 8 rfl (by kernel_rfl) (fun K hK => ?_)
        go_simp
        refine (fun (H : ∀ W : World, (fun (w' : World) => ((Below w4.heap.size w4 w' ∧ w'.cell? ⟨w4.heap.size, 0, none⟩ = some (.string B)) ∧ (w'.cell? ⟨W312.heap.size, 0, none⟩ = some (.slice ob c c) ∧ w'.cell? ⟨W312.heap.size, 1, none⟩ = some (.slice (some ⟨g3, 0, none⟩) r r) ∧ w'.cell? ⟨W312.heap.size, 2, none⟩ = some (.slice (some ⟨w4.heap.size, 0, none⟩) 1 1)))) W → K _ W) => H _ ?hH313) (fun W313 hW313 => ?main313)
        case hH313 =>
          exact ⟨⟨nx hW312.1 (nxAlloc (Below.refl W312.heap.size W312) (.cells #[.slice ob c c, .slice (some ⟨g3, 0, none⟩) r r, .slice (some ⟨w4.heap.size, 0, none⟩) 1 1] 22 (0, 0))), keep_cell (nxAlloc (Below.refl W312.heap.size W312) (.cells #[.slice ob c c, .slice (some ⟨g3, 0, none⟩) r r, .slice (some ⟨w4.heap.size, 0, none⟩) 1 1] 22 (0, 0))) hW312.2⟩, cell_new _ _ _ 0 rfl, cell_new _ _ _ 1 rfl, cell_new _ _ _ 2 rfl⟩
        case main313 =>
        refine hK.out (fun (w' : World) => ((Below w4.heap.size w4 w' ∧ w'.cell? ⟨w4.heap.size, 0, none⟩ = some (.string B)) ∧ (w'.cell? ⟨W312.heap.size, 0, none⟩ = some (.slice ob c c) ∧ w'.cell? ⟨W312.heap.size, 1, none⟩ = some (.slice (some ⟨g3, 0, none⟩) r r) ∧ w'.cell? ⟨W312.heap.size, 2, none⟩ = some (.slice (some ⟨w4.heap.size, 0, none⟩) 1 1)))) _ _ (fun _ h => h.1) hW313 ?_
        clear hK K
        try dsimp only [Act.put]
        have hbl := hW313.1.1
        have hPt : PartsS W313 W312.heap.size [.slice ob c c, .slice (some ⟨g3, 0, none⟩) r r, .slice (some ⟨w4.heap.size, 0, none⟩) 1 1] [(strs vs).take c, List.replicate r (⟨#[46]⟩ : ByteArray), [B]] := by
          refine ⟨World.block_lt_of_cell? W313 _ hW313.2.1, rfl, fun i hi => ?_⟩
          match i, hi with
          | 0, _ => exact ⟨hW313.2.1, hsrcA _ (nx hb4 hbl)⟩
          | 1, _ => exact ⟨hW313.2.2.1, hsrcB _ (nx hb4 hbl)⟩
          | 2, _ =>
            refine ⟨hW313.2.2.2, ⟨.inr ⟨⟨w4.heap.size, 0, none⟩, 1, rfl, fun j x hj => ?_⟩, _, _, rfl⟩⟩
            match j, hj with
            | 0, hj => simp at hj; subst hj; exact hW313.1.2
            | j + 1, hj => simp at hj
        refine held_one 9 rfl (by kernel_rfl) (fun K hK => ?_)
        go_simp
        refine (concatS_any W312.heap.size 3 _ _ W313 hPt rfl (by omega) (by rw [← HX.out]; omega)).mono ?_; rintro e W5 ⟨v5, own5, hb, rfl⟩
        rw [← HX.out] at own5
        go_wp2_with fail
        have hL5 : (fun (w' : World) => ((Below w4.heap.size w4 w' ∧ w'.cell? ⟨w4.heap.size, 0, none⟩ = some (.string B)) ∧ (w'.cell? ⟨W312.heap.size, 0, none⟩ = some (.slice ob c c) ∧ w'.cell? ⟨W312.heap.size, 1, none⟩ = some (.slice (some ⟨g3, 0, none⟩) r r) ∧ w'.cell? ⟨W312.heap.size, 2, none⟩ = some (.slice (some ⟨w4.heap.size, 0, none⟩) 1 1)))) W5 := ⟨⟨nx hW313.1.1 hb, keep_cell hb hW313.1.2⟩, keep_cell hb hW313.2.1, keep_cell hb hW313.2.2.1, keep_cell hb hW313.2.2.2⟩
        refine hK.out (fun (w' : World) => ((Below w4.heap.size w4 w' ∧ w'.cell? ⟨w4.heap.size, 0, none⟩ = some (.string B)) ∧ (w'.cell? ⟨W312.heap.size, 0, none⟩ = some (.slice ob c c) ∧ w'.cell? ⟨W312.heap.size, 1, none⟩ = some (.slice (some ⟨g3, 0, none⟩) r r) ∧ w'.cell? ⟨W312.heap.size, 2, none⟩ = some (.slice (some ⟨w4.heap.size, 0, none⟩) 1 1)))) _ _ (fun _ h => h) hL5 ?_
        clear hK K hb
        try dsimp only [Act.put]
        refine held_one 10 rfl (by kernel_rfl) (fun K hK => ?_)
        go_simp
        refine (hW v5 _ W5 own5.cells).mono ?_; rintro e W6 ⟨rfl, hb⟩
        go_wp2_with fail
        have hL6 : (fun (w' : World) => ((Below w4.heap.size w4 w' ∧ w'.cell? ⟨w4.heap.size, 0, none⟩ = some (.string B)) ∧ (w'.cell? ⟨W312.heap.size, 0, none⟩ = some (.slice ob c c) ∧ w'.cell? ⟨W312.heap.size, 1, none⟩ = some (.slice (some ⟨g3, 0, none⟩) r r) ∧ w'.cell? ⟨W312.heap.size, 2, none⟩ = some (.slice (some ⟨w4.heap.size, 0, none⟩) 1 1)))) W6 := ⟨⟨nx hL5.1.1 hb, keep_cell hb hL5.1.2⟩, keep_cell hb hL5.2.1, keep_cell hb hL5.2.2.1, keep_cell hb hL5.2.2.2⟩
        refine hK.out (fun (w' : World) => ((Below w4.heap.size w4 w' ∧ w'.cell? ⟨w4.heap.size, 0, none⟩ = some (.string B)) ∧ (w'.cell? ⟨W312.heap.size, 0, none⟩ = some (.slice ob c c) ∧ w'.cell? ⟨W312.heap.size, 1, none⟩ = some (.slice (some ⟨g3, 0, none⟩) r r) ∧ w'.cell? ⟨W312.heap.size, 2, none⟩ = some (.slice (some ⟨w4.heap.size, 0, none⟩) 1 1)))) _ _ (fun _ h => h) hL6 ?_
        clear hK K hb
        try dsimp only [Act.put]
        refine held_one 11 rfl (by kernel_rfl) (fun K hK => ?_)
        go_simp
        refine (hTO _).mono ?_; rintro e W7 ⟨p7, hp7, hb, rfl⟩
        go_wp2_with fail
        have hL7 : (fun (w' : World) => ((Below w4.heap.size w4 w' ∧ w'.cell? ⟨w4.heap.size, 0, none⟩ = some (.string B)) ∧ (w'.cell? ⟨W312.heap.size, 0, none⟩ = some (.slice ob c c) ∧ w'.cell? ⟨W312.heap.size, 1, none⟩ = some (.slice (some ⟨g3, 0, none⟩) r r) ∧ w'.cell? ⟨W312.heap.size, 2, none⟩ = some (.slice (some ⟨w4.heap.size, 0, none⟩) 1 1)))) W7 := ⟨⟨nx hL6.1.1 hb, keep_cell hb hL6.1.2⟩, keep_cell hb hL6.2.1, keep_cell hb hL6.2.2.1, keep_cell hb hL6.2.2.2⟩
        refine hK.out (fun (w' : World) => ((Below w4.heap.size w4 w' ∧ w'.cell? ⟨w4.heap.size, 0, none⟩ = some (.string B)) ∧ (w'.cell? ⟨W312.heap.size, 0, none⟩ = some (.slice ob c c) ∧ w'.cell? ⟨W312.heap.size, 1, none⟩ = some (.slice (some ⟨g3, 0, none⟩) r r) ∧ w'.cell? ⟨W312.heap.size, 2, none⟩ = some (.slice (some ⟨w4.heap.size, 0, none⟩) 1 1)))) _ _ (fun _ h => h) hL7 ?_
        clear hK K hb
        try dsimp only [Act.put]
        refine held_one 12 rfl (by kernel_rfl) (fun K hK => ?_)
        go_simp
        refine (hHg p7 W7 hp7).mono ?_; rintro e W8 ⟨v8, own8, hb, rfl⟩
        go_wp2_with fail
        have hL8 : (fun (w' : World) => ((Below w4.heap.size w4 w' ∧ w'.cell? ⟨w4.heap.size, 0, none⟩ = some (.string B)) ∧ (w'.cell? ⟨W312.heap.size, 0, none⟩ = some (.slice ob c c) ∧ w'.cell? ⟨W312.heap.size, 1, none⟩ = some (.slice (some ⟨g3, 0, none⟩) r r) ∧ w'.cell? ⟨W312.heap.size, 2, none⟩ = some (.slice (some ⟨w4.heap.size, 0, none⟩) 1 1)))) W8 := ⟨⟨nx hL7.1.1 hb, keep_cell hb hL7.1.2⟩, keep_cell hb hL7.2.1, keep_cell hb hL7.2.2.1, keep_cell hb hL7.2.2.2⟩
        refine hK.out (fun (w' : World) => ((Below w4.heap.size w4 w' ∧ w'.cell? ⟨w4.heap.size, 0, none⟩ = some (.string B)) ∧ (w'.cell? ⟨W312.heap.size, 0, none⟩ = some (.slice ob c c) ∧ w'.cell? ⟨W312.heap.size, 1, none⟩ = some (.slice (some ⟨g3, 0, none⟩) r r) ∧ w'.cell? ⟨W312.heap.size, 2, none⟩ = some (.slice (some ⟨w4.heap.size, 0, none⟩) 1 1)))) _ _ (fun _ h => h) hL8 ?_
        clear hK K hb
        try dsimp only [Act.put]
        refine wpAnyH_take (i := 13) (oi := ?oi314) (v := ?vv314) ?hi314 ?hn314 ?hf314 ?hr314 ?hq314 (Or.inl ⟨?hg314, ?hy314⟩) hL8 ?rest314
        case hi314 => (simp only [List.getElem?_toArray, List.getElem?_cons_succ, List.getElem?_cons_zero]; rfl)
        case hn314 => kernel_rfl
        case hf314 => kernel_rfl
        case hr314 => kernel_rfl
        case hg314 => rfl
        case hy314 => (intro w hSw; (try dsimp only at hSw); go_simp; first | done | with_reducible rfl)
        case hq314 => exact fun _ _ _ h => h
        try dsimp only [Act.put]
        refine wpAnyH_done (by kernel_rfl) ?_ _
        try simp only [List.setIfInBounds_toArray, List.set_cons_zero, List.set_cons_succ]
        have hbz := nx (nx hb3 hb4) (hL8.1.1)
        have hbz7 := nx (nx hb3 hb4) (hL7.1.1)
        replace own8 := own8.mono hbz7.size
        go_wp2_with fail
        go_ret
        exact ⟨_, own8, hbz, rfl⟩
      · go_simp
        refine (fun (H : ∀ W : World, (fun (w' : World) => ((Below w4.heap.size w4 w' ∧ w'.cell? ⟨w4.heap.size, 0, none⟩ = some (.string B)) ∧ (w'.cell? ⟨W311.heap.size, 0, none⟩ = some (.slice ob c c) ∧ w'.cell? ⟨W311.heap.size, 1, none⟩ = some (.slice (some ⟨g3, 0, none⟩) r r) ∧ w'.cell? ⟨W311.heap.size, 2, none⟩ = some (.slice (some ⟨w4.heap.size, 0, none⟩) 1 1)))) W → K _ W) => H _ ?hH315) (fun W315 hW315 => ?main315)
        case hH315 =>
          exact ⟨⟨nx hW311.1 (nxAlloc (Below.refl W311.heap.size W311) (.cells #[.slice ob c c, .slice (some ⟨g3, 0, none⟩) r r, .slice (some ⟨w4.heap.size, 0, none⟩) 1 1] 22 (0, 0))), keep_cell (nxAlloc (Below.refl W311.heap.size W311) (.cells #[.slice ob c c, .slice (some ⟨g3, 0, none⟩) r r, .slice (some ⟨w4.heap.size, 0, none⟩) 1 1] 22 (0, 0))) hW311.2⟩, cell_new _ _ _ 0 rfl, cell_new _ _ _ 1 rfl, cell_new _ _ _ 2 rfl⟩
        case main315 =>
        refine hK.out (fun (w' : World) => ((Below w4.heap.size w4 w' ∧ w'.cell? ⟨w4.heap.size, 0, none⟩ = some (.string B)) ∧ (w'.cell? ⟨W311.heap.size, 0, none⟩ = some (.slice ob c c) ∧ w'.cell? ⟨W311.heap.size, 1, none⟩ = some (.slice (some ⟨g3, 0, none⟩) r r) ∧ w'.cell? ⟨W311.heap.size, 2, none⟩ = some (.slice (some ⟨w4.heap.size, 0, none⟩) 1 1)))) _ _ (fun _ h => h.1) hW315 ?_
        clear hK K
        try dsimp only [Act.put]
        refine held_one 1 rfl (by kernel_rfl) (fun K hK => ?_)
        go_simp
        refine (hF _ (HA.out.keep (nx (nx hb3 hb4) (hW315.1.1)))).mono ?_; rintro e W316 ⟨rfl, hb316⟩
        go_wp2_with fail
        have hW316 : (fun (w' : World) => ((Below w4.heap.size w4 w' ∧ w'.cell? ⟨w4.heap.size, 0, none⟩ = some (.string B)) ∧ (w'.cell? ⟨W311.heap.size, 0, none⟩ = some (.slice ob c c) ∧ w'.cell? ⟨W311.heap.size, 1, none⟩ = some (.slice (some ⟨g3, 0, none⟩) r r) ∧ w'.cell? ⟨W311.heap.size, 2, none⟩ = some (.slice (some ⟨w4.heap.size, 0, none⟩) 1 1)))) W316 := ⟨⟨nx hW315.1.1 hb316, keep_cell hb316 hW315.1.2⟩, keep_cell hb316 hW315.2.1, keep_cell hb316 hW315.2.2.1, keep_cell hb316 hW315.2.2.2⟩
        refine hK.out (fun (w' : World) => ((Below w4.heap.size w4 w' ∧ w'.cell? ⟨w4.heap.size, 0, none⟩ = some (.string B)) ∧ (w'.cell? ⟨W311.heap.size, 0, none⟩ = some (.slice ob c c) ∧ w'.cell? ⟨W311.heap.size, 1, none⟩ = some (.slice (some ⟨g3, 0, none⟩) r r) ∧ w'.cell? ⟨W311.heap.size, 2, none⟩ = some (.slice (some ⟨w4.heap.size, 0, none⟩) 1 1)))) _ _ (fun _ h => h) hW316 ?_
        clear hK K
        try dsimp only [Act.put]
        have hbl := hW316.1.1
        have hPt : PartsS W316 W311.heap.size [.slice ob c c, .slice (some ⟨g3, 0, none⟩) r r, .slice (some ⟨w4.heap.size, 0, none⟩) 1 1] [(strs vs).take c, List.replicate r (⟨#[46]⟩ : ByteArray), [B]] := by
          refine ⟨World.block_lt_of_cell? W316 _ hW316.2.1, rfl, fun i hi => ?_⟩
          match i, hi with
          | 0, _ => exact ⟨hW316.2.1, hsrcA _ (nx hb4 hbl)⟩
          | 1, _ => exact ⟨hW316.2.2.1, hsrcB _ (nx hb4 hbl)⟩
          | 2, _ =>
            refine ⟨hW316.2.2.2, ⟨.inr ⟨⟨w4.heap.size, 0, none⟩, 1, rfl, fun j x hj => ?_⟩, _, _, rfl⟩⟩
            match j, hj with
            | 0, hj => simp at hj; subst hj; exact hW316.1.2
            | j + 1, hj => simp at hj
        refine held_one 9 rfl (by kernel_rfl) (fun K hK => ?_)
        go_simp
        refine (concatS_any W311.heap.size 3 _ _ W316 hPt rfl (by omega) (by rw [← HX.out]; omega)).mono ?_; rintro e W5 ⟨v5, own5, hb, rfl⟩
        rw [← HX.out] at own5
        go_wp2_with fail
        have hL5 : (fun (w' : World) => ((Below w4.heap.size w4 w' ∧ w'.cell? ⟨w4.heap.size, 0, none⟩ = some (.string B)) ∧ (w'.cell? ⟨W311.heap.size, 0, none⟩ = some (.slice ob c c) ∧ w'.cell? ⟨W311.heap.size, 1, none⟩ = some (.slice (some ⟨g3, 0, none⟩) r r) ∧ w'.cell? ⟨W311.heap.size, 2, none⟩ = some (.slice (some ⟨w4.heap.size, 0, none⟩) 1 1)))) W5 := ⟨⟨nx hW316.1.1 hb, keep_cell hb hW316.1.2⟩, keep_cell hb hW316.2.1, keep_cell hb hW316.2.2.1, keep_cell hb hW316.2.2.2⟩
        refine hK.out (fun (w' : World) => ((Below w4.heap.size w4 w' ∧ w'.cell? ⟨w4.heap.size, 0, none⟩ = some (.string B)) ∧ (w'.cell? ⟨W311.heap.size, 0, none⟩ = some (.slice ob c c) ∧ w'.cell? ⟨W311.heap.size, 1, none⟩ = some (.slice (some ⟨g3, 0, none⟩) r r) ∧ w'.cell? ⟨W311.heap.size, 2, none⟩ = some (.slice (some ⟨w4.heap.size, 0, none⟩) 1 1)))) _ _ (fun _ h => h) hL5 ?_
        clear hK K hb
        try dsimp only [Act.put]
        refine held_one 10 rfl (by kernel_rfl) (fun K hK => ?_)
        go_simp
        refine (hW v5 _ W5 own5.cells).mono ?_; rintro e W6 ⟨rfl, hb⟩
        go_wp2_with fail
        have hL6 : (fun (w' : World) => ((Below w4.heap.size w4 w' ∧ w'.cell? ⟨w4.heap.size, 0, none⟩ = some (.string B)) ∧ (w'.cell? ⟨W311.heap.size, 0, none⟩ = some (.slice ob c c) ∧ w'.cell? ⟨W311.heap.size, 1, none⟩ = some (.slice (some ⟨g3, 0, none⟩) r r) ∧ w'.cell? ⟨W311.heap.size, 2, none⟩ = some (.slice (some ⟨w4.heap.size, 0, none⟩) 1 1)))) W6 := ⟨⟨nx hL5.1.1 hb, keep_cell hb hL5.1.2⟩, keep_cell hb hL5.2.1, keep_cell hb hL5.2.2.1, keep_cell hb hL5.2.2.2⟩
        refine hK.out (fun (w' : World) => ((Below w4.heap.size w4 w' ∧ w'.cell? ⟨w4.heap.size, 0, none⟩ = some (.string B)) ∧ (w'.cell? ⟨W311.heap.size, 0, none⟩ = some (.slice ob c c) ∧ w'.cell? ⟨W311.heap.size, 1, none⟩ = some (.slice (some ⟨g3, 0, none⟩) r r) ∧ w'.cell? ⟨W311.heap.size, 2, none⟩ = some (.slice (some ⟨w4.heap.size, 0, none⟩) 1 1)))) _ _ (fun _ h => h) hL6 ?_
        clear hK K hb
        try dsimp only [Act.put]
        refine held_one 11 rfl (by kernel_rfl) (fun K hK => ?_)
        go_simp
        refine (hTO _).mono ?_; rintro e W7 ⟨p7, hp7, hb, rfl⟩
        go_wp2_with fail
        have hL7 : (fun (w' : World) => ((Below w4.heap.size w4 w' ∧ w'.cell? ⟨w4.heap.size, 0, none⟩ = some (.string B)) ∧ (w'.cell? ⟨W311.heap.size, 0, none⟩ = some (.slice ob c c) ∧ w'.cell? ⟨W311.heap.size, 1, none⟩ = some (.slice (some ⟨g3, 0, none⟩) r r) ∧ w'.cell? ⟨W311.heap.size, 2, none⟩ = some (.slice (some ⟨w4.heap.size, 0, none⟩) 1 1)))) W7 := ⟨⟨nx hL6.1.1 hb, keep_cell hb hL6.1.2⟩, keep_cell hb hL6.2.1, keep_cell hb hL6.2.2.1, keep_cell hb hL6.2.2.2⟩
        refine hK.out (fun (w' : World) => ((Below w4.heap.size w4 w' ∧ w'.cell? ⟨w4.heap.size, 0, none⟩ = some (.string B)) ∧ (w'.cell? ⟨W311.heap.size, 0, none⟩ = some (.slice ob c c) ∧ w'.cell? ⟨W311.heap.size, 1, none⟩ = some (.slice (some ⟨g3, 0, none⟩) r r) ∧ w'.cell? ⟨W311.heap.size, 2, none⟩ = some (.slice (some ⟨w4.heap.size, 0, none⟩) 1 1)))) _ _ (fun _ h => h) hL7 ?_
        clear hK K hb
        try dsimp only [Act.put]
        refine held_one 12 rfl (by kernel_rfl) (fun K hK => ?_)
        go_simp
        refine (hHg p7 W7 hp7).mono ?_; rintro e W8 ⟨v8, own8, hb, rfl⟩
        go_wp2_with fail
        have hL8 : (fun (w' : World) => ((Below w4.heap.size w4 w' ∧ w'.cell? ⟨w4.heap.size, 0, none⟩ = some (.string B)) ∧ (w'.cell? ⟨W311.heap.size, 0, none⟩ = some (.slice ob c c) ∧ w'.cell? ⟨W311.heap.size, 1, none⟩ = some (.slice (some ⟨g3, 0, none⟩) r r) ∧ w'.cell? ⟨W311.heap.size, 2, none⟩ = some (.slice (some ⟨w4.heap.size, 0, none⟩) 1 1)))) W8 := ⟨⟨nx hL7.1.1 hb, keep_cell hb hL7.1.2⟩, keep_cell hb hL7.2.1, keep_cell hb hL7.2.2.1, keep_cell hb hL7.2.2.2⟩
        refine hK.out (fun (w' : World) => ((Below w4.heap.size w4 w' ∧ w'.cell? ⟨w4.heap.size, 0, none⟩ = some (.string B)) ∧ (w'.cell? ⟨W311.heap.size, 0, none⟩ = some (.slice ob c c) ∧ w'.cell? ⟨W311.heap.size, 1, none⟩ = some (.slice (some ⟨g3, 0, none⟩) r r) ∧ w'.cell? ⟨W311.heap.size, 2, none⟩ = some (.slice (some ⟨w4.heap.size, 0, none⟩) 1 1)))) _ _ (fun _ h => h) hL8 ?_
        clear hK K hb
        try dsimp only [Act.put]
        refine wpAnyH_take (i := 13) (oi := ?oi317) (v := ?vv317) ?hi317 ?hn317 ?hf317 ?hr317 ?hq317 (Or.inl ⟨?hg317, ?hy317⟩) hL8 ?rest317
        case hi317 => (simp only [List.getElem?_toArray, List.getElem?_cons_succ, List.getElem?_cons_zero]; rfl)
        case hn317 => kernel_rfl
        case hf317 => kernel_rfl
        case hr317 => kernel_rfl
        case hg317 => rfl
        case hy317 => (intro w hSw; (try dsimp only at hSw); go_simp; first | done | with_reducible rfl)
        case hq317 => exact fun _ _ _ h => h
        try dsimp only [Act.put]
        refine wpAnyH_done (by kernel_rfl) ?_ _
        try simp only [List.setIfInBounds_toArray, List.set_cons_zero, List.set_cons_succ]
        have hbz := nx (nx hb3 hb4) (hL8.1.1)
        have hbz7 := nx (nx hb3 hb4) (hL7.1.1)
        replace own8 := own8.mono hbz7.size
        go_wp2_with fail
        go_ret
        exact ⟨_, own8, hbz, rfl⟩
  · obtain ⟨g2, rfl⟩ : ∃ g2, ob = some ⟨g2, 0, none⟩ := by
      rcases HB.out with ⟨h0, h1⟩ | ⟨g, cap', h0, h1⟩
      · injection h0 with e1 e2 e3; omega
      · injection h0 with e1 e2 e3; exact ⟨g, e1⟩
    have hd6 : bcap - c ≠ 0 := by omega
    have hd7 : ¬ (bcap = c) := by omega
    have hHV := hHU (some ⟨g2, c, none⟩) (bcap - c) w3 (fun i hi => by
      rw [hsl] at hi
      obtain ⟨g, e, _, hg, hcell⟩ := HD.out (c + i) (by omega)
      obtain rfl : g2 = g := by simpa using e
      refine ⟨g2, c, rfl, Nat.lt_of_lt_of_le hg hb3.size, ?_⟩
      refine (hb3.cell (p := ⟨g2, c + i, none⟩) hg).trans ?_
      rw [hcell]
      congr 2
      simp [strs, List.getD_eq_getElem?_getD])
    clear hHU hsl hsd
    go_wp2_with fail
    refine hHV.mono ?_; rintro e w4 ⟨rfl, hb4⟩
    clear hHV
    try go_wp2_with fail
    refine wp_region_held_drew (S := fun (w' : World) => Below w4.heap.size w4 w') (by kernel_rfl) (Below.refl w4.heap.size w4).drew (fun hH0 => ?_)
    refine wpAnyH_take (i := 0) (oi := ?oi318) (v := ?vv318) ?hi318 ?hn318 ?hf318 ?hr318 ?hq318 (Or.inl ⟨?hg318, ?hy318⟩) hH0 ?rest318
    case hi318 => (simp only [List.getElem?_toArray, List.getElem?_cons_zero]; rfl)
    case hn318 => kernel_rfl
    case hf318 => kernel_rfl
    case hr318 => kernel_rfl
    case hg318 => rfl
    case hy318 => (intro w hSw; (try dsimp only at hSw); go_simp; first | done | with_reducible rfl)
    case hq318 => exact fun _ _ _ h => h
    try dsimp only [Act.put]
    refine wpAnyH_take (i := 2) (oi := ?oi319) (v := ?vv319) ?hi319 ?hn319 ?hf319 ?hr319 ?hq319 (Or.inl ⟨?hg319, ?hy319⟩) hH0 ?rest319
    case hi319 => (simp only [List.getElem?_toArray, List.getElem?_cons_succ, List.getElem?_cons_zero]; rfl)
    case hn319 => kernel_rfl
    case hf319 => kernel_rfl
    case hr319 => kernel_rfl
    case hg319 => rfl
    case hy319 => (intro w hSw; (try dsimp only at hSw); go_simp; first | done | with_reducible rfl)
    case hq319 => exact fun _ _ _ h => h
    try dsimp only [Act.put]
    refine wpAnyH_take (i := 3) (oi := ?oi320) (v := ?vv320) ?hi320 ?hn320 ?hf320 ?hr320 ?hq320 (Or.inl ⟨?hg320, ?hy320⟩) hH0 ?rest320
    case hi320 => (simp only [List.getElem?_toArray, List.getElem?_cons_succ, List.getElem?_cons_zero]; rfl)
    case hn320 => kernel_rfl
    case hf320 => kernel_rfl
    case hr320 => kernel_rfl
    case hg320 => rfl
    case hy320 => (intro w hSw; (try dsimp only at hSw); go_simp; first | done | with_reducible rfl)
    case hq320 => exact fun _ _ _ h => h
    try dsimp only [Act.put]
    refine wpAnyH_take (i := 4) (oi := ?oi321) (v := ?vv321) ?hi321 ?hn321 ?hf321 ?hr321 ?hq321 (Or.inl ⟨?hg321, ?hy321⟩) hH0 ?rest321
    case hi321 => (simp only [List.getElem?_toArray, List.getElem?_cons_succ, List.getElem?_cons_zero]; rfl)
    case hn321 => kernel_rfl
    case hf321 => kernel_rfl
    case hr321 => kernel_rfl
    case hg321 => rfl
    case hy321 => (intro w hSw; (try dsimp only at hSw); go_simp; first | done | with_reducible rfl)
    case hq321 => exact fun _ _ _ h => h
    try dsimp only [Act.put]
    refine wpAnyH_take (i := 5) (oi := ?oi322) (v := ?vv322) ?hi322 ?hn322 ?hf322 ?hr322 ?hq322 (Or.inl ⟨?hg322, ?hy322⟩) hH0 ?rest322
    case hi322 => (simp only [List.getElem?_toArray, List.getElem?_cons_succ, List.getElem?_cons_zero]; rfl)
    case hn322 => kernel_rfl
    case hf322 => kernel_rfl
    case hr322 => kernel_rfl
    case hg322 => rfl
    case hy322 => (intro w hSw; (try dsimp only at hSw); go_simp; first | done | with_reducible rfl)
    case hq322 => exact fun _ _ _ h => h
    try dsimp only [Act.put]
    refine wpAnyH_take (i := 6) (oi := ?oi323) (v := ?vv323) ?hi323 ?hn323 ?hf323 ?hr323 ?hq323 (Or.inl ⟨?hg323, ?hy323⟩) hH0 ?rest323
    case hi323 => (simp only [List.getElem?_toArray, List.getElem?_cons_succ, List.getElem?_cons_zero]; rfl)
    case hn323 => kernel_rfl
    case hf323 => kernel_rfl
    case hr323 => kernel_rfl
    case hg323 => rfl
    case hy323 => (intro w hSw; (try dsimp only at hSw); go_simp; first | done | with_reducible rfl)
    case hq323 => exact fun _ _ _ h => h
    try dsimp only [Act.put]
    refine held_two 1 7 rfl rfl (by kernel_rfl) (fun K hK => ?_) (fun K hK => ?_)
    · go_simp
      refine (hF _ (HA.out.keep (nx (nx hb3 hb4) (hH0)))).mono ?_; rintro e W324 ⟨rfl, hb324⟩
      go_wp2_with fail
      have hW324 : (fun (w' : World) => Below w4.heap.size w4 w') W324 := nx hH0 hb324
      refine hK.out (fun (w' : World) => Below w4.heap.size w4 w') _ _ (fun _ h => h) hW324 ?_
      clear hK K
      try dsimp only [Act.put]
      refine held_one 7 rfl (by kernel_rfl) (fun K hK => ?_)
      go_simp
      refine (fun (H : ∀ W : World, (fun (w' : World) => (Below w4.heap.size w4 w' ∧ w'.cell? ⟨W324.heap.size, 0, none⟩ = some (.string B))) W → K _ W) => H _ ?hH325) (fun W325 hW325 => ?main325)
      case hH325 =>
        exact ⟨nx hW324 (nxAlloc (Below.refl W324.heap.size W324) (.cells #[.string B] 9 (0, 0))), cell_new _ _ _ 0 rfl⟩
      case main325 =>
      refine hK.out (fun (w' : World) => (Below w4.heap.size w4 w' ∧ w'.cell? ⟨W324.heap.size, 0, none⟩ = some (.string B))) _ _ (fun _ h => h.1) hW325 ?_
      clear hK K
      try dsimp only [Act.put]
      refine held_one 8 rfl (by kernel_rfl) (fun K hK => ?_)
      go_simp
      refine (fun (H : ∀ W : World, (fun (w' : World) => ((Below w4.heap.size w4 w' ∧ w'.cell? ⟨W324.heap.size, 0, none⟩ = some (.string B)) ∧ (w'.cell? ⟨W325.heap.size, 0, none⟩ = some (.slice (some ⟨g2, 0, none⟩) c bcap) ∧ w'.cell? ⟨W325.heap.size, 1, none⟩ = some (.slice (some ⟨g3, 0, none⟩) r r) ∧ w'.cell? ⟨W325.heap.size, 2, none⟩ = some (.slice (some ⟨W324.heap.size, 0, none⟩) 1 1)))) W → K _ W) => H _ ?hH326) (fun W326 hW326 => ?main326)
      case hH326 =>
        exact ⟨⟨nx hW325.1 (nxAlloc (Below.refl W325.heap.size W325) (.cells #[.slice (some ⟨g2, 0, none⟩) c bcap, .slice (some ⟨g3, 0, none⟩) r r, .slice (some ⟨W324.heap.size, 0, none⟩) 1 1] 22 (0, 0))), keep_cell (nxAlloc (Below.refl W325.heap.size W325) (.cells #[.slice (some ⟨g2, 0, none⟩) c bcap, .slice (some ⟨g3, 0, none⟩) r r, .slice (some ⟨W324.heap.size, 0, none⟩) 1 1] 22 (0, 0))) hW325.2⟩, cell_new _ _ _ 0 rfl, cell_new _ _ _ 1 rfl, cell_new _ _ _ 2 rfl⟩
      case main326 =>
      refine hK.out (fun (w' : World) => ((Below w4.heap.size w4 w' ∧ w'.cell? ⟨W324.heap.size, 0, none⟩ = some (.string B)) ∧ (w'.cell? ⟨W325.heap.size, 0, none⟩ = some (.slice (some ⟨g2, 0, none⟩) c bcap) ∧ w'.cell? ⟨W325.heap.size, 1, none⟩ = some (.slice (some ⟨g3, 0, none⟩) r r) ∧ w'.cell? ⟨W325.heap.size, 2, none⟩ = some (.slice (some ⟨W324.heap.size, 0, none⟩) 1 1)))) _ _ (fun _ h => h.1) hW326 ?_
      clear hK K
      try dsimp only [Act.put]
      have hbl := hW326.1.1
      have hPt : PartsS W326 W325.heap.size [.slice (some ⟨g2, 0, none⟩) c bcap, .slice (some ⟨g3, 0, none⟩) r r, .slice (some ⟨W324.heap.size, 0, none⟩) 1 1] [(strs vs).take c, List.replicate r (⟨#[46]⟩ : ByteArray), [B]] := by
        refine ⟨World.block_lt_of_cell? W326 _ hW326.2.1, rfl, fun i hi => ?_⟩
        match i, hi with
        | 0, _ => exact ⟨hW326.2.1, hsrcA _ (nx hb4 hbl)⟩
        | 1, _ => exact ⟨hW326.2.2.1, hsrcB _ (nx hb4 hbl)⟩
        | 2, _ =>
          refine ⟨hW326.2.2.2, ⟨.inr ⟨⟨W324.heap.size, 0, none⟩, 1, rfl, fun j x hj => ?_⟩, _, _, rfl⟩⟩
          match j, hj with
          | 0, hj => simp at hj; subst hj; exact hW326.1.2
          | j + 1, hj => simp at hj
      refine held_one 9 rfl (by kernel_rfl) (fun K hK => ?_)
      go_simp
      refine (concatS_any W325.heap.size 3 _ _ W326 hPt rfl (by omega) (by rw [← HX.out]; omega)).mono ?_; rintro e W5 ⟨v5, own5, hb, rfl⟩
      rw [← HX.out] at own5
      go_wp2_with fail
      have hL5 : (fun (w' : World) => ((Below w4.heap.size w4 w' ∧ w'.cell? ⟨W324.heap.size, 0, none⟩ = some (.string B)) ∧ (w'.cell? ⟨W325.heap.size, 0, none⟩ = some (.slice (some ⟨g2, 0, none⟩) c bcap) ∧ w'.cell? ⟨W325.heap.size, 1, none⟩ = some (.slice (some ⟨g3, 0, none⟩) r r) ∧ w'.cell? ⟨W325.heap.size, 2, none⟩ = some (.slice (some ⟨W324.heap.size, 0, none⟩) 1 1)))) W5 := ⟨⟨nx hW326.1.1 hb, keep_cell hb hW326.1.2⟩, keep_cell hb hW326.2.1, keep_cell hb hW326.2.2.1, keep_cell hb hW326.2.2.2⟩
      refine hK.out (fun (w' : World) => ((Below w4.heap.size w4 w' ∧ w'.cell? ⟨W324.heap.size, 0, none⟩ = some (.string B)) ∧ (w'.cell? ⟨W325.heap.size, 0, none⟩ = some (.slice (some ⟨g2, 0, none⟩) c bcap) ∧ w'.cell? ⟨W325.heap.size, 1, none⟩ = some (.slice (some ⟨g3, 0, none⟩) r r) ∧ w'.cell? ⟨W325.heap.size, 2, none⟩ = some (.slice (some ⟨W324.heap.size, 0, none⟩) 1 1)))) _ _ (fun _ h => h) hL5 ?_
      clear hK K hb
      try dsimp only [Act.put]
      refine held_one 10 rfl (by kernel_rfl) (fun K hK => ?_)
      go_simp
      refine (hW v5 _ W5 own5.cells).mono ?_; rintro e W6 ⟨rfl, hb⟩
      go_wp2_with fail
      have hL6 : (fun (w' : World) => ((Below w4.heap.size w4 w' ∧ w'.cell? ⟨W324.heap.size, 0, none⟩ = some (.string B)) ∧ (w'.cell? ⟨W325.heap.size, 0, none⟩ = some (.slice (some ⟨g2, 0, none⟩) c bcap) ∧ w'.cell? ⟨W325.heap.size, 1, none⟩ = some (.slice (some ⟨g3, 0, none⟩) r r) ∧ w'.cell? ⟨W325.heap.size, 2, none⟩ = some (.slice (some ⟨W324.heap.size, 0, none⟩) 1 1)))) W6 := ⟨⟨nx hL5.1.1 hb, keep_cell hb hL5.1.2⟩, keep_cell hb hL5.2.1, keep_cell hb hL5.2.2.1, keep_cell hb hL5.2.2.2⟩
      refine hK.out (fun (w' : World) => ((Below w4.heap.size w4 w' ∧ w'.cell? ⟨W324.heap.size, 0, none⟩ = some (.string B)) ∧ (w'.cell? ⟨W325.heap.size, 0, none⟩ = some (.slice (some ⟨g2, 0, none⟩) c bcap) ∧ w'.cell? ⟨W325.heap.size, 1, none⟩ = some (.slice (some ⟨g3, 0, none⟩) r r) ∧ w'.cell? ⟨W325.heap.size, 2, none⟩ = some (.slice (some ⟨W324.heap.size, 0, none⟩) 1 1)))) _ _ (fun _ h => h) hL6 ?_
      clear hK K hb
      try dsimp only [Act.put]
      refine held_one 11 rfl (by kernel_rfl) (fun K hK => ?_)
      go_simp
      refine (hTO _).mono ?_; rintro e W7 ⟨p7, hp7, hb, rfl⟩
      go_wp2_with fail
      have hL7 : (fun (w' : World) => ((Below w4.heap.size w4 w' ∧ w'.cell? ⟨W324.heap.size, 0, none⟩ = some (.string B)) ∧ (w'.cell? ⟨W325.heap.size, 0, none⟩ = some (.slice (some ⟨g2, 0, none⟩) c bcap) ∧ w'.cell? ⟨W325.heap.size, 1, none⟩ = some (.slice (some ⟨g3, 0, none⟩) r r) ∧ w'.cell? ⟨W325.heap.size, 2, none⟩ = some (.slice (some ⟨W324.heap.size, 0, none⟩) 1 1)))) W7 := ⟨⟨nx hL6.1.1 hb, keep_cell hb hL6.1.2⟩, keep_cell hb hL6.2.1, keep_cell hb hL6.2.2.1, keep_cell hb hL6.2.2.2⟩
      refine hK.out (fun (w' : World) => ((Below w4.heap.size w4 w' ∧ w'.cell? ⟨W324.heap.size, 0, none⟩ = some (.string B)) ∧ (w'.cell? ⟨W325.heap.size, 0, none⟩ = some (.slice (some ⟨g2, 0, none⟩) c bcap) ∧ w'.cell? ⟨W325.heap.size, 1, none⟩ = some (.slice (some ⟨g3, 0, none⟩) r r) ∧ w'.cell? ⟨W325.heap.size, 2, none⟩ = some (.slice (some ⟨W324.heap.size, 0, none⟩) 1 1)))) _ _ (fun _ h => h) hL7 ?_
      clear hK K hb
      try dsimp only [Act.put]
      refine held_one 12 rfl (by kernel_rfl) (fun K hK => ?_)
      go_simp
      refine (hHg p7 W7 hp7).mono ?_; rintro e W8 ⟨v8, own8, hb, rfl⟩
      go_wp2_with fail
      have hL8 : (fun (w' : World) => ((Below w4.heap.size w4 w' ∧ w'.cell? ⟨W324.heap.size, 0, none⟩ = some (.string B)) ∧ (w'.cell? ⟨W325.heap.size, 0, none⟩ = some (.slice (some ⟨g2, 0, none⟩) c bcap) ∧ w'.cell? ⟨W325.heap.size, 1, none⟩ = some (.slice (some ⟨g3, 0, none⟩) r r) ∧ w'.cell? ⟨W325.heap.size, 2, none⟩ = some (.slice (some ⟨W324.heap.size, 0, none⟩) 1 1)))) W8 := ⟨⟨nx hL7.1.1 hb, keep_cell hb hL7.1.2⟩, keep_cell hb hL7.2.1, keep_cell hb hL7.2.2.1, keep_cell hb hL7.2.2.2⟩
      refine hK.out (fun (w' : World) => ((Below w4.heap.size w4 w' ∧ w'.cell? ⟨W324.heap.size, 0, none⟩ = some (.string B)) ∧ (w'.cell? ⟨W325.heap.size, 0, none⟩ = some (.slice (some ⟨g2, 0, none⟩) c bcap) ∧ w'.cell? ⟨W325.heap.size, 1, none⟩ = some (.slice (some ⟨g3, 0, none⟩) r r) ∧ w'.cell? ⟨W325.heap.size, 2, none⟩ = some (.slice (some ⟨W324.heap.size, 0, none⟩) 1 1)))) _ _ (fun _ h => h) hL8 ?_
      clear hK K hb
      try dsimp only [Act.put]
      refine wpAnyH_take (i := 13) (oi := ?oi327) (v := ?vv327) ?hi327 ?hn327 ?hf327 ?hr327 ?hq327 (Or.inl ⟨?hg327, ?hy327⟩) hL8 ?rest327
      case hi327 => (simp only [List.getElem?_toArray, List.getElem?_cons_succ, List.getElem?_cons_zero]; rfl)
      case hn327 => kernel_rfl
      case hf327 => kernel_rfl
      case hr327 => kernel_rfl
      case hg327 => rfl
      case hy327 => (intro w hSw; (try dsimp only at hSw); go_simp; first | done | with_reducible rfl)
      case hq327 => exact fun _ _ _ h => h
      try dsimp only [Act.put]
      refine wpAnyH_done (by kernel_rfl) ?_ _
      try simp only [List.setIfInBounds_toArray, List.set_cons_zero, List.set_cons_succ]
      have hbz := nx (nx hb3 hb4) (hL8.1.1)
      have hbz7 := nx (nx hb3 hb4) (hL7.1.1)
      replace own8 := own8.mono hbz7.size
      go_wp2_with fail
      go_ret
      exact ⟨_, own8, hbz, rfl⟩
    · go_simp
      refine (fun (H : ∀ W : World, (fun (w' : World) => (Below w4.heap.size w4 w' ∧ w'.cell? ⟨w4.heap.size, 0, none⟩ = some (.string B))) W → K _ W) => H _ ?hH328) (fun W328 hW328 => ?main328)
      case hH328 =>
        exact ⟨nx hH0 (nxAlloc (Below.refl w4.drew.heap.size w4.drew) (.cells #[.string B] 9 (0, 0))), cell_new _ _ _ 0 rfl⟩
      case main328 =>
      refine hK.out (fun (w' : World) => (Below w4.heap.size w4 w' ∧ w'.cell? ⟨w4.heap.size, 0, none⟩ = some (.string B))) _ _ (fun _ h => h.1) hW328 ?_
      clear hK K
      try dsimp only [Act.put]
      refine held_two 1 8 rfl rfl (by kernel_rfl) (fun K hK => ?_) (fun K hK => ?_)
      · go_simp
        refine (hF _ (HA.out.keep (nx (nx hb3 hb4) (hW328.1)))).mono ?_; rintro e W329 ⟨rfl, hb329⟩
        go_wp2_with fail
        have hW329 : (fun (w' : World) => (Below w4.heap.size w4 w' ∧ w'.cell? ⟨w4.heap.size, 0, none⟩ = some (.string B))) W329 := ⟨nx hW328.1 hb329, keep_cell hb329 hW328.2⟩
        refine hK.out (fun (w' : World) => (Below w4.heap.size w4 w' ∧ w'.cell? ⟨w4.heap.size, 0, none⟩ = some (.string B))) _ _ (fun _ h => h) hW329 ?_
        clear hK K
        try dsimp only [Act.put]
        refine held_one 8 rfl (by kernel_rfl) (fun K hK => ?_)
        go_simp
        refine (fun (H : ∀ W : World, (fun (w' : World) => ((Below w4.heap.size w4 w' ∧ w'.cell? ⟨w4.heap.size, 0, none⟩ = some (.string B)) ∧ (w'.cell? ⟨W329.heap.size, 0, none⟩ = some (.slice (some ⟨g2, 0, none⟩) c bcap) ∧ w'.cell? ⟨W329.heap.size, 1, none⟩ = some (.slice (some ⟨g3, 0, none⟩) r r) ∧ w'.cell? ⟨W329.heap.size, 2, none⟩ = some (.slice (some ⟨w4.heap.size, 0, none⟩) 1 1)))) W → K _ W) => H _ ?hH330) (fun W330 hW330 => ?main330)
        case hH330 =>
          exact ⟨⟨nx hW329.1 (nxAlloc (Below.refl W329.heap.size W329) (.cells #[.slice (some ⟨g2, 0, none⟩) c bcap, .slice (some ⟨g3, 0, none⟩) r r, .slice (some ⟨w4.heap.size, 0, none⟩) 1 1] 22 (0, 0))), keep_cell (nxAlloc (Below.refl W329.heap.size W329) (.cells #[.slice (some ⟨g2, 0, none⟩) c bcap, .slice (some ⟨g3, 0, none⟩) r r, .slice (some ⟨w4.heap.size, 0, none⟩) 1 1] 22 (0, 0))) hW329.2⟩, cell_new _ _ _ 0 rfl, cell_new _ _ _ 1 rfl, cell_new _ _ _ 2 rfl⟩
        case main330 =>
        refine hK.out (fun (w' : World) => ((Below w4.heap.size w4 w' ∧ w'.cell? ⟨w4.heap.size, 0, none⟩ = some (.string B)) ∧ (w'.cell? ⟨W329.heap.size, 0, none⟩ = some (.slice (some ⟨g2, 0, none⟩) c bcap) ∧ w'.cell? ⟨W329.heap.size, 1, none⟩ = some (.slice (some ⟨g3, 0, none⟩) r r) ∧ w'.cell? ⟨W329.heap.size, 2, none⟩ = some (.slice (some ⟨w4.heap.size, 0, none⟩) 1 1)))) _ _ (fun _ h => h.1) hW330 ?_
        clear hK K
        try dsimp only [Act.put]
        have hbl := hW330.1.1
        have hPt : PartsS W330 W329.heap.size [.slice (some ⟨g2, 0, none⟩) c bcap, .slice (some ⟨g3, 0, none⟩) r r, .slice (some ⟨w4.heap.size, 0, none⟩) 1 1] [(strs vs).take c, List.replicate r (⟨#[46]⟩ : ByteArray), [B]] := by
          refine ⟨World.block_lt_of_cell? W330 _ hW330.2.1, rfl, fun i hi => ?_⟩
          match i, hi with
          | 0, _ => exact ⟨hW330.2.1, hsrcA _ (nx hb4 hbl)⟩
          | 1, _ => exact ⟨hW330.2.2.1, hsrcB _ (nx hb4 hbl)⟩
          | 2, _ =>
            refine ⟨hW330.2.2.2, ⟨.inr ⟨⟨w4.heap.size, 0, none⟩, 1, rfl, fun j x hj => ?_⟩, _, _, rfl⟩⟩
            match j, hj with
            | 0, hj => simp at hj; subst hj; exact hW330.1.2
            | j + 1, hj => simp at hj
        refine held_one 9 rfl (by kernel_rfl) (fun K hK => ?_)
        go_simp
        refine (concatS_any W329.heap.size 3 _ _ W330 hPt rfl (by omega) (by rw [← HX.out]; omega)).mono ?_; rintro e W5 ⟨v5, own5, hb, rfl⟩
        rw [← HX.out] at own5
        go_wp2_with fail
        have hL5 : (fun (w' : World) => ((Below w4.heap.size w4 w' ∧ w'.cell? ⟨w4.heap.size, 0, none⟩ = some (.string B)) ∧ (w'.cell? ⟨W329.heap.size, 0, none⟩ = some (.slice (some ⟨g2, 0, none⟩) c bcap) ∧ w'.cell? ⟨W329.heap.size, 1, none⟩ = some (.slice (some ⟨g3, 0, none⟩) r r) ∧ w'.cell? ⟨W329.heap.size, 2, none⟩ = some (.slice (some ⟨w4.heap.size, 0, none⟩) 1 1)))) W5 := ⟨⟨nx hW330.1.1 hb, keep_cell hb hW330.1.2⟩, keep_cell hb hW330.2.1, keep_cell hb hW330.2.2.1, keep_cell hb hW330.2.2.2⟩
        refine hK.out (fun (w' : World) => ((Below w4.heap.size w4 w' ∧ w'.cell? ⟨w4.heap.size, 0, none⟩ = some (.string B)) ∧ (w'.cell? ⟨W329.heap.size, 0, none⟩ = some (.slice (some ⟨g2, 0, none⟩) c bcap) ∧ w'.cell? ⟨W329.heap.size, 1, none⟩ = some (.slice (some ⟨g3, 0, none⟩) r r) ∧ w'.cell? ⟨W329.heap.size, 2, none⟩ = some (.slice (some ⟨w4.heap.size, 0, none⟩) 1 1)))) _ _ (fun _ h => h) hL5 ?_
        clear hK K hb
        try dsimp only [Act.put]
        refine held_one 10 rfl (by kernel_rfl) (fun K hK => ?_)
        go_simp
        refine (hW v5 _ W5 own5.cells).mono ?_; rintro e W6 ⟨rfl, hb⟩
        go_wp2_with fail
        have hL6 : (fun (w' : World) => ((Below w4.heap.size w4 w' ∧ w'.cell? ⟨w4.heap.size, 0, none⟩ = some (.string B)) ∧ (w'.cell? ⟨W329.heap.size, 0, none⟩ = some (.slice (some ⟨g2, 0, none⟩) c bcap) ∧ w'.cell? ⟨W329.heap.size, 1, none⟩ = some (.slice (some ⟨g3, 0, none⟩) r r) ∧ w'.cell? ⟨W329.heap.size, 2, none⟩ = some (.slice (some ⟨w4.heap.size, 0, none⟩) 1 1)))) W6 := ⟨⟨nx hL5.1.1 hb, keep_cell hb hL5.1.2⟩, keep_cell hb hL5.2.1, keep_cell hb hL5.2.2.1, keep_cell hb hL5.2.2.2⟩
        refine hK.out (fun (w' : World) => ((Below w4.heap.size w4 w' ∧ w'.cell? ⟨w4.heap.size, 0, none⟩ = some (.string B)) ∧ (w'.cell? ⟨W329.heap.size, 0, none⟩ = some (.slice (some ⟨g2, 0, none⟩) c bcap) ∧ w'.cell? ⟨W329.heap.size, 1, none⟩ = some (.slice (some ⟨g3, 0, none⟩) r r) ∧ w'.cell? ⟨W329.heap.size, 2, none⟩ = some (.slice (some ⟨w4.heap.size, 0, none⟩) 1 1)))) _ _ (fun _ h => h) hL6 ?_
        clear hK K hb
        try dsimp only [Act.put]
        refine held_one 11 rfl (by kernel_rfl) (fun K hK => ?_)
        go_simp
        refine (hTO _).mono ?_; rintro e W7 ⟨p7, hp7, hb, rfl⟩
        go_wp2_with fail
        have hL7 : (fun (w' : World) => ((Below w4.heap.size w4 w' ∧ w'.cell? ⟨w4.heap.size, 0, none⟩ = some (.string B)) ∧ (w'.cell? ⟨W329.heap.size, 0, none⟩ = some (.slice (some ⟨g2, 0, none⟩) c bcap) ∧ w'.cell? ⟨W329.heap.size, 1, none⟩ = some (.slice (some ⟨g3, 0, none⟩) r r) ∧ w'.cell? ⟨W329.heap.size, 2, none⟩ = some (.slice (some ⟨w4.heap.size, 0, none⟩) 1 1)))) W7 := ⟨⟨nx hL6.1.1 hb, keep_cell hb hL6.1.2⟩, keep_cell hb hL6.2.1, keep_cell hb hL6.2.2.1, keep_cell hb hL6.2.2.2⟩
        refine hK.out (fun (w' : World) => ((Below w4.heap.size w4 w' ∧ w'.cell? ⟨w4.heap.size, 0, none⟩ = some (.string B)) ∧ (w'.cell? ⟨W329.heap.size, 0, none⟩ = some (.slice (some ⟨g2, 0, none⟩) c bcap) ∧ w'.cell? ⟨W329.heap.size, 1, none⟩ = some (.slice (some ⟨g3, 0, none⟩) r r) ∧ w'.cell? ⟨W329.heap.size, 2, none⟩ = some (.slice (some ⟨w4.heap.size, 0, none⟩) 1 1)))) _ _ (fun _ h => h) hL7 ?_
        clear hK K hb
        try dsimp only [Act.put]
        refine held_one 12 rfl (by kernel_rfl) (fun K hK => ?_)
        go_simp
        refine (hHg p7 W7 hp7).mono ?_; rintro e W8 ⟨v8, own8, hb, rfl⟩
        go_wp2_with fail
        have hL8 : (fun (w' : World) => ((Below w4.heap.size w4 w' ∧ w'.cell? ⟨w4.heap.size, 0, none⟩ = some (.string B)) ∧ (w'.cell? ⟨W329.heap.size, 0, none⟩ = some (.slice (some ⟨g2, 0, none⟩) c bcap) ∧ w'.cell? ⟨W329.heap.size, 1, none⟩ = some (.slice (some ⟨g3, 0, none⟩) r r) ∧ w'.cell? ⟨W329.heap.size, 2, none⟩ = some (.slice (some ⟨w4.heap.size, 0, none⟩) 1 1)))) W8 := ⟨⟨nx hL7.1.1 hb, keep_cell hb hL7.1.2⟩, keep_cell hb hL7.2.1, keep_cell hb hL7.2.2.1, keep_cell hb hL7.2.2.2⟩
        refine hK.out (fun (w' : World) => ((Below w4.heap.size w4 w' ∧ w'.cell? ⟨w4.heap.size, 0, none⟩ = some (.string B)) ∧ (w'.cell? ⟨W329.heap.size, 0, none⟩ = some (.slice (some ⟨g2, 0, none⟩) c bcap) ∧ w'.cell? ⟨W329.heap.size, 1, none⟩ = some (.slice (some ⟨g3, 0, none⟩) r r) ∧ w'.cell? ⟨W329.heap.size, 2, none⟩ = some (.slice (some ⟨w4.heap.size, 0, none⟩) 1 1)))) _ _ (fun _ h => h) hL8 ?_
        clear hK K hb
        try dsimp only [Act.put]
        refine wpAnyH_take (i := 13) (oi := ?oi331) (v := ?vv331) ?hi331 ?hn331 ?hf331 ?hr331 ?hq331 (Or.inl ⟨?hg331, ?hy331⟩) hL8 ?rest331
        case hi331 => (simp only [List.getElem?_toArray, List.getElem?_cons_succ, List.getElem?_cons_zero]; rfl)
        case hn331 => kernel_rfl
        case hf331 => kernel_rfl
        case hr331 => kernel_rfl
        case hg331 => rfl
        case hy331 => (intro w hSw; (try dsimp only at hSw); go_simp; first | done | with_reducible rfl)
        case hq331 => exact fun _ _ _ h => h
        try dsimp only [Act.put]
        refine wpAnyH_done (by kernel_rfl) ?_ _
        try simp only [List.setIfInBounds_toArray, List.set_cons_zero, List.set_cons_succ]
        have hbz := nx (nx hb3 hb4) (hL8.1.1)
        have hbz7 := nx (nx hb3 hb4) (hL7.1.1)
        replace own8 := own8.mono hbz7.size
        go_wp2_with fail
        go_ret
        exact ⟨_, own8, hbz, rfl⟩
      · go_simp
        refine (fun (H : ∀ W : World, (fun (w' : World) => ((Below w4.heap.size w4 w' ∧ w'.cell? ⟨w4.heap.size, 0, none⟩ = some (.string B)) ∧ (w'.cell? ⟨W328.heap.size, 0, none⟩ = some (.slice (some ⟨g2, 0, none⟩) c bcap) ∧ w'.cell? ⟨W328.heap.size, 1, none⟩ = some (.slice (some ⟨g3, 0, none⟩) r r) ∧ w'.cell? ⟨W328.heap.size, 2, none⟩ = some (.slice (some ⟨w4.heap.size, 0, none⟩) 1 1)))) W → K _ W) => H _ ?hH332) (fun W332 hW332 => ?main332)
        case hH332 =>
          exact ⟨⟨nx hW328.1 (nxAlloc (Below.refl W328.heap.size W328) (.cells #[.slice (some ⟨g2, 0, none⟩) c bcap, .slice (some ⟨g3, 0, none⟩) r r, .slice (some ⟨w4.heap.size, 0, none⟩) 1 1] 22 (0, 0))), keep_cell (nxAlloc (Below.refl W328.heap.size W328) (.cells #[.slice (some ⟨g2, 0, none⟩) c bcap, .slice (some ⟨g3, 0, none⟩) r r, .slice (some ⟨w4.heap.size, 0, none⟩) 1 1] 22 (0, 0))) hW328.2⟩, cell_new _ _ _ 0 rfl, cell_new _ _ _ 1 rfl, cell_new _ _ _ 2 rfl⟩
        case main332 =>
        refine hK.out (fun (w' : World) => ((Below w4.heap.size w4 w' ∧ w'.cell? ⟨w4.heap.size, 0, none⟩ = some (.string B)) ∧ (w'.cell? ⟨W328.heap.size, 0, none⟩ = some (.slice (some ⟨g2, 0, none⟩) c bcap) ∧ w'.cell? ⟨W328.heap.size, 1, none⟩ = some (.slice (some ⟨g3, 0, none⟩) r r) ∧ w'.cell? ⟨W328.heap.size, 2, none⟩ = some (.slice (some ⟨w4.heap.size, 0, none⟩) 1 1)))) _ _ (fun _ h => h.1) hW332 ?_
        clear hK K
        try dsimp only [Act.put]
        refine held_one 1 rfl (by kernel_rfl) (fun K hK => ?_)
        go_simp
        refine (hF _ (HA.out.keep (nx (nx hb3 hb4) (hW332.1.1)))).mono ?_; rintro e W333 ⟨rfl, hb333⟩
        go_wp2_with fail
        have hW333 : (fun (w' : World) => ((Below w4.heap.size w4 w' ∧ w'.cell? ⟨w4.heap.size, 0, none⟩ = some (.string B)) ∧ (w'.cell? ⟨W328.heap.size, 0, none⟩ = some (.slice (some ⟨g2, 0, none⟩) c bcap) ∧ w'.cell? ⟨W328.heap.size, 1, none⟩ = some (.slice (some ⟨g3, 0, none⟩) r r) ∧ w'.cell? ⟨W328.heap.size, 2, none⟩ = some (.slice (some ⟨w4.heap.size, 0, none⟩) 1 1)))) W333 := ⟨⟨nx hW332.1.1 hb333, keep_cell hb333 hW332.1.2⟩, keep_cell hb333 hW332.2.1, keep_cell hb333 hW332.2.2.1, keep_cell hb333 hW332.2.2.2⟩
        refine hK.out (fun (w' : World) => ((Below w4.heap.size w4 w' ∧ w'.cell? ⟨w4.heap.size, 0, none⟩ = some (.string B)) ∧ (w'.cell? ⟨W328.heap.size, 0, none⟩ = some (.slice (some ⟨g2, 0, none⟩) c bcap) ∧ w'.cell? ⟨W328.heap.size, 1, none⟩ = some (.slice (some ⟨g3, 0, none⟩) r r) ∧ w'.cell? ⟨W328.heap.size, 2, none⟩ = some (.slice (some ⟨w4.heap.size, 0, none⟩) 1 1)))) _ _ (fun _ h => h) hW333 ?_
        clear hK K
        try dsimp only [Act.put]
        have hbl := hW333.1.1
        have hPt : PartsS W333 W328.heap.size [.slice (some ⟨g2, 0, none⟩) c bcap, .slice (some ⟨g3, 0, none⟩) r r, .slice (some ⟨w4.heap.size, 0, none⟩) 1 1] [(strs vs).take c, List.replicate r (⟨#[46]⟩ : ByteArray), [B]] := by
          refine ⟨World.block_lt_of_cell? W333 _ hW333.2.1, rfl, fun i hi => ?_⟩
          match i, hi with
          | 0, _ => exact ⟨hW333.2.1, hsrcA _ (nx hb4 hbl)⟩
          | 1, _ => exact ⟨hW333.2.2.1, hsrcB _ (nx hb4 hbl)⟩
          | 2, _ =>
            refine ⟨hW333.2.2.2, ⟨.inr ⟨⟨w4.heap.size, 0, none⟩, 1, rfl, fun j x hj => ?_⟩, _, _, rfl⟩⟩
            match j, hj with
            | 0, hj => simp at hj; subst hj; exact hW333.1.2
            | j + 1, hj => simp at hj
        refine held_one 9 rfl (by kernel_rfl) (fun K hK => ?_)
        go_simp
        refine (concatS_any W328.heap.size 3 _ _ W333 hPt rfl (by omega) (by rw [← HX.out]; omega)).mono ?_; rintro e W5 ⟨v5, own5, hb, rfl⟩
        rw [← HX.out] at own5
        go_wp2_with fail
        have hL5 : (fun (w' : World) => ((Below w4.heap.size w4 w' ∧ w'.cell? ⟨w4.heap.size, 0, none⟩ = some (.string B)) ∧ (w'.cell? ⟨W328.heap.size, 0, none⟩ = some (.slice (some ⟨g2, 0, none⟩) c bcap) ∧ w'.cell? ⟨W328.heap.size, 1, none⟩ = some (.slice (some ⟨g3, 0, none⟩) r r) ∧ w'.cell? ⟨W328.heap.size, 2, none⟩ = some (.slice (some ⟨w4.heap.size, 0, none⟩) 1 1)))) W5 := ⟨⟨nx hW333.1.1 hb, keep_cell hb hW333.1.2⟩, keep_cell hb hW333.2.1, keep_cell hb hW333.2.2.1, keep_cell hb hW333.2.2.2⟩
        refine hK.out (fun (w' : World) => ((Below w4.heap.size w4 w' ∧ w'.cell? ⟨w4.heap.size, 0, none⟩ = some (.string B)) ∧ (w'.cell? ⟨W328.heap.size, 0, none⟩ = some (.slice (some ⟨g2, 0, none⟩) c bcap) ∧ w'.cell? ⟨W328.heap.size, 1, none⟩ = some (.slice (some ⟨g3, 0, none⟩) r r) ∧ w'.cell? ⟨W328.heap.size, 2, none⟩ = some (.slice (some ⟨w4.heap.size, 0, none⟩) 1 1)))) _ _ (fun _ h => h) hL5 ?_
        clear hK K hb
        try dsimp only [Act.put]
        refine held_one 10 rfl (by kernel_rfl) (fun K hK => ?_)
        go_simp
        refine (hW v5 _ W5 own5.cells).mono ?_; rintro e W6 ⟨rfl, hb⟩
        go_wp2_with fail
        have hL6 : (fun (w' : World) => ((Below w4.heap.size w4 w' ∧ w'.cell? ⟨w4.heap.size, 0, none⟩ = some (.string B)) ∧ (w'.cell? ⟨W328.heap.size, 0, none⟩ = some (.slice (some ⟨g2, 0, none⟩) c bcap) ∧ w'.cell? ⟨W328.heap.size, 1, none⟩ = some (.slice (some ⟨g3, 0, none⟩) r r) ∧ w'.cell? ⟨W328.heap.size, 2, none⟩ = some (.slice (some ⟨w4.heap.size, 0, none⟩) 1 1)))) W6 := ⟨⟨nx hL5.1.1 hb, keep_cell hb hL5.1.2⟩, keep_cell hb hL5.2.1, keep_cell hb hL5.2.2.1, keep_cell hb hL5.2.2.2⟩
        refine hK.out (fun (w' : World) => ((Below w4.heap.size w4 w' ∧ w'.cell? ⟨w4.heap.size, 0, none⟩ = some (.string B)) ∧ (w'.cell? ⟨W328.heap.size, 0, none⟩ = some (.slice (some ⟨g2, 0, none⟩) c bcap) ∧ w'.cell? ⟨W328.heap.size, 1, none⟩ = some (.slice (some ⟨g3, 0, none⟩) r r) ∧ w'.cell? ⟨W328.heap.size, 2, none⟩ = some (.slice (some ⟨w4.heap.size, 0, none⟩) 1 1)))) _ _ (fun _ h => h) hL6 ?_
        clear hK K hb
        try dsimp only [Act.put]
        refine held_one 11 rfl (by kernel_rfl) (fun K hK => ?_)
        go_simp
        refine (hTO _).mono ?_; rintro e W7 ⟨p7, hp7, hb, rfl⟩
        go_wp2_with fail
        have hL7 : (fun (w' : World) => ((Below w4.heap.size w4 w' ∧ w'.cell? ⟨w4.heap.size, 0, none⟩ = some (.string B)) ∧ (w'.cell? ⟨W328.heap.size, 0, none⟩ = some (.slice (some ⟨g2, 0, none⟩) c bcap) ∧ w'.cell? ⟨W328.heap.size, 1, none⟩ = some (.slice (some ⟨g3, 0, none⟩) r r) ∧ w'.cell? ⟨W328.heap.size, 2, none⟩ = some (.slice (some ⟨w4.heap.size, 0, none⟩) 1 1)))) W7 := ⟨⟨nx hL6.1.1 hb, keep_cell hb hL6.1.2⟩, keep_cell hb hL6.2.1, keep_cell hb hL6.2.2.1, keep_cell hb hL6.2.2.2⟩
        refine hK.out (fun (w' : World) => ((Below w4.heap.size w4 w' ∧ w'.cell? ⟨w4.heap.size, 0, none⟩ = some (.string B)) ∧ (w'.cell? ⟨W328.heap.size, 0, none⟩ = some (.slice (some ⟨g2, 0, none⟩) c bcap) ∧ w'.cell? ⟨W328.heap.size, 1, none⟩ = some (.slice (some ⟨g3, 0, none⟩) r r) ∧ w'.cell? ⟨W328.heap.size, 2, none⟩ = some (.slice (some ⟨w4.heap.size, 0, none⟩) 1 1)))) _ _ (fun _ h => h) hL7 ?_
        clear hK K hb
        try dsimp only [Act.put]
        refine held_one 12 rfl (by kernel_rfl) (fun K hK => ?_)
        go_simp
        refine (hHg p7 W7 hp7).mono ?_; rintro e W8 ⟨v8, own8, hb, rfl⟩
        go_wp2_with fail
        have hL8 : (fun (w' : World) => ((Below w4.heap.size w4 w' ∧ w'.cell? ⟨w4.heap.size, 0, none⟩ = some (.string B)) ∧ (w'.cell? ⟨W328.heap.size, 0, none⟩ = some (.slice (some ⟨g2, 0, none⟩) c bcap) ∧ w'.cell? ⟨W328.heap.size, 1, none⟩ = some (.slice (some ⟨g3, 0, none⟩) r r) ∧ w'.cell? ⟨W328.heap.size, 2, none⟩ = some (.slice (some ⟨w4.heap.size, 0, none⟩) 1 1)))) W8 := ⟨⟨nx hL7.1.1 hb, keep_cell hb hL7.1.2⟩, keep_cell hb hL7.2.1, keep_cell hb hL7.2.2.1, keep_cell hb hL7.2.2.2⟩
        refine hK.out (fun (w' : World) => ((Below w4.heap.size w4 w' ∧ w'.cell? ⟨w4.heap.size, 0, none⟩ = some (.string B)) ∧ (w'.cell? ⟨W328.heap.size, 0, none⟩ = some (.slice (some ⟨g2, 0, none⟩) c bcap) ∧ w'.cell? ⟨W328.heap.size, 1, none⟩ = some (.slice (some ⟨g3, 0, none⟩) r r) ∧ w'.cell? ⟨W328.heap.size, 2, none⟩ = some (.slice (some ⟨w4.heap.size, 0, none⟩) 1 1)))) _ _ (fun _ h => h) hL8 ?_
        clear hK K hb
        try dsimp only [Act.put]
        refine wpAnyH_take (i := 13) (oi := ?oi334) (v := ?vv334) ?hi334 ?hn334 ?hf334 ?hr334 ?hq334 (Or.inl ⟨?hg334, ?hy334⟩) hL8 ?rest334
        case hi334 => (simp only [List.getElem?_toArray, List.getElem?_cons_succ, List.getElem?_cons_zero]; rfl)
        case hn334 => kernel_rfl
        case hf334 => kernel_rfl
        case hr334 => kernel_rfl
        case hg334 => rfl
        case hy334 => (intro w hSw; (try dsimp only at hSw); go_simp; first | done | with_reducible rfl)
        case hq334 => exact fun _ _ _ h => h
        try dsimp only [Act.put]
        refine wpAnyH_done (by kernel_rfl) ?_ _
        try simp only [List.setIfInBounds_toArray, List.set_cons_zero, List.set_cons_succ]
        have hbz := nx (nx hb3 hb4) (hL8.1.1)
        have hbz7 := nx (nx hb3 hb4) (hL7.1.1)
        replace own8 := own8.mono hbz7.size
        go_wp2_with fail
        go_ret
        exact ⟨_, own8, hbz, rfl⟩
end Go.Proofs.Ytplmbdljhgicfab

/-! FfV -/
namespace Go.Proofs.Ytplmbdljhgicfab

/-- The leaves of the first trees of a forest, leaves alone behind its trees. -/
def lvN (us : List Tr) : Nat → Nat
  | 0 => 0
  | k + 1 => lvN us k + (us.getD k .lf).leaves
theorem lvN_cons (u : Tr) (us : List Tr) : ∀ k, lvN (u :: us) (k + 1) = u.leaves + lvN us k := by
  intro k
  induction k with
  | zero => simp [lvN]
  | succ k ih => rw [lvN, ih, lvN]; simp; omega
theorem lvN_nil : ∀ k, lvN [] k = k := by
  intro k
  induction k with
  | zero => rfl
  | succ k ih => rw [lvN, ih]; simp [Tr.leaves, Tr.carets]
/-- All trees of f with g stacked, before the leaves at the end are taken away. -/
def totF (us vs : List Tr) : List Tr := fillLs us vs ++ vs.drop (leavesL us)
theorem totF_cons (u : Tr) (us vs : List Tr) : totF (u :: us) vs = (u.fillR vs).1 :: totF us (vs.drop u.leaves) := by
  unfold totF
  rw [fillLs, leavesL_cons, List.drop_drop]; rfl
theorem totF_nil (vs : List Tr) : totF [] vs = vs := by simp [totF, fillLs, leavesL, sumT]
theorem totF_strip (us vs : List Tr) : stripT (totF us vs) = stackF us vs := rfl
theorem totF_get (us : List Tr) : ∀ (vs : List Tr) (k : Nat), k < (totF us vs).length → (totF us vs).getD k .lf = ((us.getD k .lf).fillR (vs.drop (lvN us k))).1 := by
  induction us with
  | nil =>
    intro vs k h
    rw [totF_nil] at h ⊢
    have e : (([] : List Tr).getD k .lf) = .lf := by simp
    rw [lvN_nil, e, List.drop_eq_getElem_cons h]
    show vs.getD k .lf = vs[k]
    simp [h]
  | cons u us ih =>
    intro vs k h
    rw [totF_cons] at h ⊢
    cases k with
    | zero => simp [lvN]
    | succ k =>
      rw [lvN_cons]
      have := ih (vs.drop u.leaves) k (by simpa using h)
      rw [List.drop_drop] at this
      simpa using this
theorem totF_more (us : List Tr) : ∀ (vs : List Tr) (k : Nat), k < (totF us vs).length ↔ (k < us.length ∨ lvN us k < vs.length) := by
  induction us with
  | nil => intro vs k; rw [totF_nil, lvN_nil]; simp
  | cons u us ih =>
    intro vs k
    rw [totF_cons]
    cases k with
    | zero => simp
    | succ k =>
      rw [lvN_cons]
      have := ih (vs.drop u.leaves) k
      rw [List.length_drop] at this
      simp only [List.length_cons]
      omega
theorem totF_length (us vs : List Tr) : (totF us vs).length ≤ us.length + vs.length := by
  unfold totF; rw [List.length_append, fillLs_length, List.length_drop]; omega
theorem fillLs_sum (us : List Tr) : ∀ vs : List Tr, sumT (fillLs us vs) + sumT (vs.drop (leavesL us)) = sumT us + sumT vs := by
  induction us with
  | nil => intro vs; simp [fillLs, leavesL, sumT]
  | cons u us ih =>
    intro vs
    rw [fillLs, leavesL_cons, sumT_cons, sumT_cons]
    have h := ih (vs.drop u.leaves)
    rw [List.drop_drop] at h
    have h1 := fillR_carets u (vs ++ List.replicate u.leaves .lf) (by simp)
    rw [fillR_pad, fillR_rest, List.drop_append, List.drop_replicate, sumC_append, sumC_append] at h1
    have e1 : ∀ n, sumC (List.replicate n Tr.lf) = 0 := fun n => sumT_lf n
    rw [e1, e1] at h1
    have e2 : sumC (vs.drop u.leaves) = sumT (vs.drop u.leaves) := rfl
    have e3 : sumC vs = sumT vs := rfl
    omega
theorem totF_sum (us vs : List Tr) : sumT (totF us vs) = sumT us + sumT vs := by
  unfold totF; rw [sumT_app]; exact fillLs_sum us vs
theorem stackF_bound (us vs : List Tr) : sumT (stackF us vs) = sumT us + sumT vs ∧ (stackF us vs).length ≤ us.length + vs.length := by
  rw [← totF_strip, sumT_strip, totF_sum]
  exact ⟨rfl, Nat.le_trans (stripT_length _) (totF_length us vs)⟩
theorem lvN_le (us : List Tr) : ∀ k, lvN us k ≤ leavesL us + k := by
  induction us with
  | nil => intro k; rw [lvN_nil]; omega
  | cons u us ih =>
    intro k
    cases k with
    | zero => simp [lvN]
    | succ k => rw [lvN_cons, leavesL_cons]; have := ih k; omega
theorem stackF_length (us vs : List Tr) (n : Nat) (h : us.length ≤ n) (k : vs.length ≤ n) : (stackF us vs).length ≤ n := by
  rw [← totF_strip]
  refine Nat.le_trans (stripT_length _) ?_
  unfold totF; rw [List.length_append, fillLs_length, List.length_drop]
  unfold leavesL; omega
end Go.Proofs.Ytplmbdljhgicfab

/-! Ff15 -/
namespace Go.Proofs.Ytplmbdljhgicfab
open Go.RowKit

/-- Texts of trees with leaves behind them. -/
def padN : Nat := 400
def padS (vs : List Tr) : List ByteArray := strs (vs ++ List.replicate padN Tr.lf)
theorem padS_get (vs : List Tr) (a : Nat) (h : a < vs.length + padN) : (padS vs).getD a ⟨#[]⟩ = (vs.getD a .lf).str := by
  unfold padS strs
  have h1 := map_getD (vs ++ List.replicate padN Tr.lf) a (by rw [List.length_append, List.length_replicate]; exact h)
  rw [h1]
  congr 1
  by_cases hv : a < vs.length
  · simp only [List.getD_eq_getElem?_getD, List.getElem?_append_left hv]
  · simp only [List.getD_eq_getElem?_getD]
    rw [List.getElem?_append_right (by omega), List.getElem?_replicate, List.getElem?_eq_none (show vs.length ≤ a by omega)]
    split <;> rfl
theorem padS_length (vs : List Tr) : (padS vs).length = vs.length + padN := by unfold padS; rw [strs_length, List.length_append, List.length_replicate]
theorem padS_fill (t : Tr) (vs : List Tr) (a : Nat) (h : a + t.leaves ≤ padN) : fillL t.str.data.toList ((padS vs).drop a) = (t.fillR (vs.drop a)).1.text := by
  have e : (padS vs).drop a = (vs.drop a ++ List.replicate (padN - (a - vs.length)) Tr.lf).map Tr.str := by
    unfold padS strs
    rw [← List.map_drop, List.drop_append, List.drop_replicate]
  rw [e, Tr.str_list]
  have h1 := fillL_text t (vs.drop a ++ List.replicate (padN - (a - vs.length)) Tr.lf) [] (by rw [List.length_append, List.length_replicate, List.length_drop]; omega)
  rw [List.append_nil] at h1
  rw [h1, fillR_pad]
  simp [fillL]
theorem fill_dot' {s : ByteArray} {us : List ByteArray} {i k : Nat} (hi : i < s.size) (hk : k < us.length) (h : byteAt s i = 46) :
    fillL (s.data.toList.drop i) (us.drop k) = (us.getD k ⟨#[]⟩).data.toList ++ fillL (s.data.toList.drop (i + 1)) (us.drop (k + 1)) := fill_dot hi hk h

set_option maxRecDepth 100000 in
set_option maxHeartbeats 4000000 in
theorem foStack_any (v : Value) (b : Nat) (us : List Tr) (v2 : Value) (b2 : Nat) (vs : List Tr) (w : World) (h : CellsS b w v (strs us)) (h2 : CellsS b2 w v2 (strs vs)) (hs : sumT us ≤ 60) (ht : sumT vs ≤ 60) (hl : us.length ≤ 60) (hm : vs.length ≤ 60) :
    Calls Try.prog 63 #[v, v2] w (GivesOwn (strs (stackF us vs)) w) := by
  obtain ⟨i0, hi, hz0, hz1, hz2⟩ := info_parts info_str
  have HA := Lib.hid h
  have HB := Lib.hid h2
  obtain ⟨oa, cap, rfl, hcl, hcm, _⟩ := h.form0
  obtain ⟨ob, bcap, rfl, hdl, hdm, _⟩ := h2.form0
  unfold maxLen at hcm hdm
  simp only [strs_length] at *
  have hTs := totF_sum us vs
  have hTl := totF_length us vs
  have hlv : leavesL us ≤ 120 := by unfold leavesL; omega
  have HG := Lib.hid (totF_get us vs)
  have HM := Lib.hid (totF_more us vs)
  have HV := Lib.hid (lvN_le us)
  have HW := fun v b w h => wdShort_own v b (totF us vs) w h (by omega)
  rw [totF_strip] at HW
  obtain ⟨N, hN⟩ : ∃ N, N = (totF us vs).length := ⟨_, rfl⟩
  have HN := Lib.hid hN
  have hN2 : N ≤ 120 := by omega
  have HS := Lib.hid hTs
  clear h h2 hTs hTl hN
  go_enter Try.func63, Try.ntmps63
  go_wp2_with fail
  go_loopw [5, 6, 7] (fun u lf i wr => ∃ (k : Nat) (ss : List ByteArray), k ≤ N ∧ i = .int .i64 k ∧ lf = .int .i64 ((lvN us k : Nat) : Int) ∧ OwnS w.heap.size wr u ss ∧ ss.length = k ∧ Hid (ss = strs ((totF us vs).take k)) ∧ Below w.heap.size w wr) (fun _ _ i _ => N - (intOf i).toNat)
  case atStart => exact ⟨0, [], Nat.zero_le _, rfl, rfl, OwnS.nil _ _, rfl, rfl, Below.refl _ _⟩
  case round =>
    obtain ⟨k, ss, hk, rfl, rfl, hown, hsl, he, hbw⟩ := hrel
    by_cases hlt : k < N
    · have hmore := (HM.out k).1 (by rw [← HN.out]; exact hlt)
      have hget := HG.out k (by rw [← HN.out]; exact hlt)
      have hkm : k < (totF us vs).length := by rw [← HN.out]; exact hlt
      have hcar : ((totF us vs).getD k .lf).carets ≤ 120 := by
        rw [List.getD_eq_getElem?_getD, List.getElem?_eq_getElem hkm]
        have h1 := sumT_mem (List.getElem_mem hkm)
        have h2 := HS.out
        simp; omega
      have hnext : ss ++ [((totF us vs).getD k .lf).str] = strs ((totF us vs).take (k + 1)) := by
        rw [he.out]; unfold strs
        rw [List.take_succ_eq_append_getElem hkm, List.map_append]
        simp [hkm]
      have hpf := padS_fill (us.getD k .lf) vs (lvN us k) (by have h1 := HV.out (k + 1); rw [lvN] at h1; show _ ≤ 400; omega)
      rw [← hget] at hpf
      have hlv1 : lvN us (k + 1) = lvN us k + (us.getD k .lf).leaves := rfl
      have hlv2 := HV.out (k + 1)
      have hdots := text_dots (us.getD k .lf)
      have hts := (us.getD k .lf).str_size
      have htl : (us.getD k .lf).str.data.toList = (us.getD k .lf).text := (us.getD k .lf).str_list
      have hct : (us.getD k .lf).carets ≤ 60 := by
        by_cases hj : k < us.length
        · rw [List.getD_eq_getElem?_getD, List.getElem?_eq_getElem hj]
          have := sumT_mem (List.getElem_mem hj); simp; omega
        · rw [List.getD_eq_getElem?_getD, List.getElem?_eq_none (by omega)]; simp [Tr.carets]
      have hFs := ((totF us vs).getD k .lf).str_size
      have hTA := fun w h => foTree_any (.slice oa us.length cap) b us k w h (by omega)
      have hTB := fun (a : Nat) w h (ha : (a : Int) ≤ 1000000) => foTree_any (.slice ob vs.length bcap) b2 vs a w h ha
      have hF0 : ((totF us vs).getD k .lf).str.data.toList = fillL (us.getD k .lf).str.data.toList ((padS vs).drop (lvN us k)) := by rw [hpf, Tr.str_list]
      have hcount : (us.getD k .lf).str.data.toList.count 46 = (us.getD k .lf).leaves := by rw [htl, hdots]; rfl
      generalize ((totF us vs).getD k .lf).str = F at *
      generalize (us.getD k .lf).leaves = nl at *
      generalize (us.getD k .lf).str = s at *
      have HX := Lib.hid hnext
      have HF := Lib.hid hF0
      have HC := Lib.hid hcount
      have HL1 := Lib.hid hlv1
      have HSL := Lib.hid hsl
      have hss9 : ss.length ≤ 120 := by omega
      have hs181 : s.size ≤ 200 := by omega
      have hF9 : F.size ≤ 400 := by omega
      have hend9 : lvN us k + nl ≤ 250 := by omega
      have hor : (k : Int) < (us.length : Int) ∨ (¬ (k : Int) < (us.length : Int) ∧ ((lvN us k : Nat) : Int) < (vs.length : Int)) := by omega
      unfold OwnS at hown
      generalize lvN us k = a0 at *
      clear hmore hget hkm hcar hnext hpf hlv1 hlv2 hdots hts htl hct hFs hF0 hcount he hsl
      rcases hor with hor1 | ⟨hor1, hor2⟩
      · have hk16 : (k : Int) ≤ 120 := by omega
        go_wp2_with fail
        refine (hTA _ (HA.out.keep hbw)).mono ?_; rintro e w3 ⟨rfl, rfl⟩
        go_wp2_with fail
        go_loopw [6, 9, 10] (fun lf x i w2 => ∃ (T : ByteArray) (a j : Nat), x = .string T ∧ lf = .int .i64 a ∧ i = .int .i64 j ∧ j ≤ s.size ∧ T.size ≤ 400 ∧ Hid ((s.data.toList.drop j).count 46 + a = a0 + nl) ∧ Hid (F.data.toList = T.data.toList ++ fillL (s.data.toList.drop j) ((padS vs).drop a)) ∧ w2 = wr) (fun _ _ i _ => s.size - (intOf i).toNat)
        case atStart => exact ⟨⟨#[]⟩, a0, 0, rfl, rfl, rfl, Nat.zero_le _, Nat.zero_le _, by show _ = _; rw [List.drop_zero, HC.out]; omega, by show _ = _; rw [List.drop_zero]; simpa using HF.out, rfl⟩
        case round =>
          obtain ⟨T, a, j, rfl, rfl, rfl, hj, hT, hcnt, hft, rfl⟩ := hrel
          by_cases hjl : j < s.size
          · have hcc := dots_drop hjl
            have hbj := byteAt_eq s j (by simpa using hjl)
            have hjl' : (j : Int) < (s.size : Int) := by omega
            have hac := hcnt.out
            have ha9 : a ≤ 250 := by omega
            by_cases h46 : byteAt s j = 46
            · rw [if_pos h46] at hcc
              have hka : a < (padS vs).length := by rw [padS_length]; show a < _ + 400; omega
              have hfd := fill_dot' hjl hka h46
              have hpg := padS_get vs a (by show a < _ + 400; omega)
              have h46' : (((s[j]'hjl).toNat : Int) == 46) = true := by rw [beq_iff_eq, ← h46, hbj]; rfl
              rw [hpg] at hfd
              have hTBa := fun w h => hTB a w h (by omega)
              have hft' : F.data.toList = (T ++ (vs.getD a .lf).str).data.toList ++ fillL (s.data.toList.drop (j + 1)) ((padS vs).drop (a + 1)) := by
                rw [hft.out, hfd]; simp
              have hz : (T ++ (vs.getD a .lf).str).size ≤ 400 := by
                rw [Lib.size_eq]
                have := congrArg List.length hft'
                rw [List.length_append, ← Lib.size_eq F] at this
                omega
              have hcn : Hid ((s.data.toList.drop (j + 1)).count 46 + (a + 1) = a0 + nl) := by show _ = _; omega
              have hzz := hz
              rw [ByteArray.size_append] at hz
              generalize (vs.getD a .lf).str = u at *
              have HE := Lib.hid hft'
              have HZ := Lib.hid hzz
              clear hfd hft' hft hpg hbj h46 hka hac hcc hzz hcnt
              go_wp2_with fail
              refine (hTBa _ (HB.out.keep hbw)).mono ?_; rintro e w4 ⟨rfl, rfl⟩
              go_wp2_with fail
              go_roundw
              case rel => exact ⟨T ++ u, a + 1, j + 1, rfl, by go_num, by go_num, by omega, HZ.out, hcn, HE, trivial⟩
              case measure => simp [intOf]; omega
            · rw [if_neg h46] at hcc
              have hfd := (fill_other (us := padS vs) (k := a) hjl h46).1
              have h46' : (((s[j]'hjl).toNat : Int) == 46) = false := by
                rw [beq_eq_false_iff_ne]; intro e; apply h46; rw [hbj]; exact e
              have hft' : F.data.toList = (T ++ s.extract j (j + 1)).data.toList ++ fillL (s.data.toList.drop (j + 1)) ((padS vs).drop a) := by
                rw [hft.out, hfd]; simp
              have hz : (T ++ s.extract j (j + 1)).size ≤ 400 := by
                rw [Lib.size_eq]
                have := congrArg List.length hft'
                rw [List.length_append, ← Lib.size_eq F] at this
                omega
              have hcn : Hid ((s.data.toList.drop (j + 1)).count 46 + a = a0 + nl) := by show _ = _; omega
              have HZ := Lib.hid hz
              have hz' : T.size + (s.extract j (j + 1)).size ≤ 400 := by rw [ByteArray.size_append] at hz; exact hz
              have HE := Lib.hid hft'
              clear hfd hft' hft hbj h46 hac hcc hz hcnt
              go_wp2_with fail
              go_roundw
              case rel => exact ⟨T ++ s.extract j (j + 1), a, j + 1, rfl, rfl, by go_num, by omega, HZ.out, hcn, HE, trivial⟩
              case measure => simp [intOf]; omega
          · obtain rfl : j = s.size := by omega
            have hend : T = F := by
              apply ba_ext
              rw [hft.out, List.drop_of_length_le (by rw [Lib.size_eq]; exact Nat.le_refl _)]
              simp [fillL]
            have hae : a = a0 + nl := by
              have := hcnt.out
              rw [List.drop_of_length_le (by rw [Lib.size_eq]; exact Nat.le_refl _)] at this
              simpa using this
            have HAE : Hid (a = lvN us (k + 1)) := by show _ = _; rw [hae, HL1.out]
            subst hend
            clear hae hft hcnt
            go_wp2_with (at_builtin; refine wpList_append_own _ rfl _ _ 22 rfl w.heap.size 9 i0 (.string ⟨#[]⟩) 1 16 Try.underlying22 hi hz0 hz1 hz2 rfl (by decide) _ _ _ rfl (hown.alloc _) ⟨wr.heap.size, 0, none⟩ 1 1 [.string T] rfl rfl (new1 _ _ _) (oneS [T]) (by unfold maxLen; omega) (by omega) (size_al hbw _) ?_; intro v' w9 hown' hgrow hnn)
            have hbw9 := below_app hbw hown (Nat.le_refl _) hgrow
            have hown1 : OwnS w.heap.size w9 v' (ss ++ [T]) := OwnS.app (B := [T]) hown'
            clear hown hown' hgrow hbw hnn
            go_wp2_with fail
            go_roundw
            case rel => exact ⟨k + 1, _, by omega, by go_num, by rw [HAE.out], hown1, by have := HSL.out; simp; omega, HX, hbw9⟩
            case measure => simp [intOf]; omega
      · have hk16 : (k : Int) ≤ 120 := by omega
        go_wp2_with fail
        refine (hTA _ (HA.out.keep hbw)).mono ?_; rintro e w3 ⟨rfl, rfl⟩
        go_wp2_with fail
        go_loopw [6, 9, 10] (fun lf x i w2 => ∃ (T : ByteArray) (a j : Nat), x = .string T ∧ lf = .int .i64 a ∧ i = .int .i64 j ∧ j ≤ s.size ∧ T.size ≤ 400 ∧ Hid ((s.data.toList.drop j).count 46 + a = a0 + nl) ∧ Hid (F.data.toList = T.data.toList ++ fillL (s.data.toList.drop j) ((padS vs).drop a)) ∧ w2 = wr) (fun _ _ i _ => s.size - (intOf i).toNat)
        case atStart => exact ⟨⟨#[]⟩, a0, 0, rfl, rfl, rfl, Nat.zero_le _, Nat.zero_le _, by show _ = _; rw [List.drop_zero, HC.out]; omega, by show _ = _; rw [List.drop_zero]; simpa using HF.out, rfl⟩
        case round =>
          obtain ⟨T, a, j, rfl, rfl, rfl, hj, hT, hcnt, hft, rfl⟩ := hrel
          by_cases hjl : j < s.size
          · have hcc := dots_drop hjl
            have hbj := byteAt_eq s j (by simpa using hjl)
            have hjl' : (j : Int) < (s.size : Int) := by omega
            have hac := hcnt.out
            have ha9 : a ≤ 250 := by omega
            by_cases h46 : byteAt s j = 46
            · rw [if_pos h46] at hcc
              have hka : a < (padS vs).length := by rw [padS_length]; show a < _ + 400; omega
              have hfd := fill_dot' hjl hka h46
              have hpg := padS_get vs a (by show a < _ + 400; omega)
              have h46' : (((s[j]'hjl).toNat : Int) == 46) = true := by rw [beq_iff_eq, ← h46, hbj]; rfl
              rw [hpg] at hfd
              have hTBa := fun w h => hTB a w h (by omega)
              have hft' : F.data.toList = (T ++ (vs.getD a .lf).str).data.toList ++ fillL (s.data.toList.drop (j + 1)) ((padS vs).drop (a + 1)) := by
                rw [hft.out, hfd]; simp
              have hz : (T ++ (vs.getD a .lf).str).size ≤ 400 := by
                rw [Lib.size_eq]
                have := congrArg List.length hft'
                rw [List.length_append, ← Lib.size_eq F] at this
                omega
              have hcn : Hid ((s.data.toList.drop (j + 1)).count 46 + (a + 1) = a0 + nl) := by show _ = _; omega
              have hzz := hz
              rw [ByteArray.size_append] at hz
              generalize (vs.getD a .lf).str = u at *
              have HE := Lib.hid hft'
              have HZ := Lib.hid hzz
              clear hfd hft' hft hpg hbj h46 hka hac hcc hzz hcnt
              go_wp2_with fail
              refine (hTBa _ (HB.out.keep hbw)).mono ?_; rintro e w4 ⟨rfl, rfl⟩
              go_wp2_with fail
              go_roundw
              case rel => exact ⟨T ++ u, a + 1, j + 1, rfl, by go_num, by go_num, by omega, HZ.out, hcn, HE, trivial⟩
              case measure => simp [intOf]; omega
            · rw [if_neg h46] at hcc
              have hfd := (fill_other (us := padS vs) (k := a) hjl h46).1
              have h46' : (((s[j]'hjl).toNat : Int) == 46) = false := by
                rw [beq_eq_false_iff_ne]; intro e; apply h46; rw [hbj]; exact e
              have hft' : F.data.toList = (T ++ s.extract j (j + 1)).data.toList ++ fillL (s.data.toList.drop (j + 1)) ((padS vs).drop a) := by
                rw [hft.out, hfd]; simp
              have hz : (T ++ s.extract j (j + 1)).size ≤ 400 := by
                rw [Lib.size_eq]
                have := congrArg List.length hft'
                rw [List.length_append, ← Lib.size_eq F] at this
                omega
              have hcn : Hid ((s.data.toList.drop (j + 1)).count 46 + a = a0 + nl) := by show _ = _; omega
              have HZ := Lib.hid hz
              have hz' : T.size + (s.extract j (j + 1)).size ≤ 400 := by rw [ByteArray.size_append] at hz; exact hz
              have HE := Lib.hid hft'
              clear hfd hft' hft hbj h46 hac hcc hz hcnt
              go_wp2_with fail
              go_roundw
              case rel => exact ⟨T ++ s.extract j (j + 1), a, j + 1, rfl, rfl, by go_num, by omega, HZ.out, hcn, HE, trivial⟩
              case measure => simp [intOf]; omega
          · obtain rfl : j = s.size := by omega
            have hend : T = F := by
              apply ba_ext
              rw [hft.out, List.drop_of_length_le (by rw [Lib.size_eq]; exact Nat.le_refl _)]
              simp [fillL]
            have hae : a = a0 + nl := by
              have := hcnt.out
              rw [List.drop_of_length_le (by rw [Lib.size_eq]; exact Nat.le_refl _)] at this
              simpa using this
            have HAE : Hid (a = lvN us (k + 1)) := by show _ = _; rw [hae, HL1.out]
            subst hend
            clear hae hft hcnt
            go_wp2_with (at_builtin; refine wpList_append_own _ rfl _ _ 22 rfl w.heap.size 9 i0 (.string ⟨#[]⟩) 1 16 Try.underlying22 hi hz0 hz1 hz2 rfl (by decide) _ _ _ rfl (hown.alloc _) ⟨wr.heap.size, 0, none⟩ 1 1 [.string T] rfl rfl (new1 _ _ _) (oneS [T]) (by unfold maxLen; omega) (by omega) (size_al hbw _) ?_; intro v' w9 hown' hgrow hnn)
            have hbw9 := below_app hbw hown (Nat.le_refl _) hgrow
            have hown1 : OwnS w.heap.size w9 v' (ss ++ [T]) := OwnS.app (B := [T]) hown'
            clear hown hown' hgrow hbw hnn
            go_wp2_with fail
            go_roundw
            case rel => exact ⟨k + 1, _, by omega, by go_num, by rw [HAE.out], hown1, by have := HSL.out; simp; omega, HX, hbw9⟩
            case measure => simp [intOf]; omega
    · obtain rfl : k = N := by omega
      have hno := mt (HM.out k).2 (by rw [← HN.out]; omega)
      have hno1 : ¬ ((k : Int) < (us.length : Int)) := by omega
      have hno2 : ¬ (((lvN us k : Nat) : Int) < (vs.length : Int)) := by omega
      have h1 := he.out
      rw [List.take_of_length_le (by rw [← HN.out]; exact Nat.le_refl _)] at h1
      rw [h1] at hown
      clear he h1 hno hsl
      go_wp2_with fail
      refine (HW _ _ _ hown.cells).mono ?_; rintro e w9 ⟨v9, own9, hb9, rfl⟩
      go_wp2_with fail
      go_ret
      exact ⟨_, own9.mono hbw.size, nx hbw hb9, rfl⟩

end Go.Proofs.Ytplmbdljhgicfab

/-! WdP -/
namespace Go.Proofs.Ytplmbdljhgicfab

/-- A letter with a number less than m. -/
def okL (m : Int) (x : Int) : Bool := !(x == 0) && (decide (-m ≤ x) && decide (x ≤ m))
theorem okL_iff {m x : Int} : okL m x = true ↔ x ≠ 0 ∧ -m ≤ x ∧ x ≤ m := by simp [okL]
theorem okL_false {m x : Int} : okL m x = false ↔ x = 0 ∨ x < -m ∨ m < x := by
  rw [Bool.eq_false_iff, Ne, okL_iff]; omega
def isW (m : Int) (w : List Int) : Bool := w.all (okL m)
/-- Is it a word? -/
def goodW (w : List Int) : Bool := decide (w.length ≤ 20) && isW 21 w
theorem goodW_iff {w : List Int} : goodW w = true ↔ w.length ≤ 20 ∧ ∀ x ∈ w, x ≠ 0 ∧ -21 ≤ x ∧ x ≤ 21 := by
  simp only [goodW, isW, Bool.and_eq_true, decide_eq_true_eq, List.all_eq_true, okL_iff]
theorem isW_drop {m : Int} {w : List Int} {k : Nat} (h : k < w.length) : isW m (w.drop k) = (okL m (w.getD k 0) && isW m (w.drop (k + 1))) := by
  unfold isW; rw [List.drop_eq_getElem_cons h, List.all_cons]; simp [h]
theorem isW_end (m : Int) (w : List Int) : isW m (w.drop w.length) = true := by simp [isW]

/-- The word of all inverses, backwards. -/
def invW (w : List Int) : List Int := (w.map fun x => -x).reverse
theorem invW_length (w : List Int) : (invW w).length = w.length := by simp [invW]

/-- One letter more behind a word without letters and inverses next to each other. -/
def free1 (out : List Int) (x : Int) : List Int := if out.getLast? = some (-x) then out.dropLast else out ++ [x]
def freeW (w : List Int) : List Int := w.foldl free1 []
theorem free1_length (out : List Int) (x : Int) : (free1 out x).length ≤ out.length + 1 := by
  unfold free1; split <;> simp; omega
theorem freeW_take {w : List Int} {k : Nat} (h : k < w.length) : freeW (w.take (k + 1)) = free1 (freeW (w.take k)) (w.getD k 0) := by
  unfold freeW
  rw [List.take_succ_eq_append_getElem h, List.foldl_append]
  simp [h]
theorem freeW_length (w : List Int) : (freeW w).length ≤ w.length := by
  have : ∀ (l a : List Int), (l.foldl free1 a).length ≤ a.length + l.length := by
    intro l
    induction l with
    | nil => intro a; simp
    | cons x l ih => intro a; have := ih (free1 a x); have := free1_length a x; simp only [List.foldl_cons, List.length_cons]; omega
  have := this w []
  simpa [freeW] using this
theorem free1_last {out : List Int} {x : Int} (h : 0 < out.length) : free1 out x = if out.getD (out.length - 1) 0 = -x then out.take (out.length - 1) else out ++ [x] := by
  unfold free1
  rw [List.getLast?_eq_getElem?, List.getElem?_eq_getElem (by omega)]
  have : out.getD (out.length - 1) 0 = out[out.length - 1]'(by omega) := by simp [List.getD_eq_getElem?_getD, List.getElem?_eq_getElem (show out.length - 1 < out.length by omega)]
  rw [this, List.dropLast_eq_take]
  simp

/-- What two letters next to each other become. -/
def ruleO (x y : Int) : Option (List Int) :=
  if x = -y then some []
  else if 0 < x ∧ 0 < y ∧ y < x then some [y, x + 1]
  else if x < 0 ∧ y < 0 ∧ -x < -y then some [y - 1, x]
  else if x < 0 ∧ 0 < y ∧ -x < y then some [y + 1, x]
  else if x < 0 ∧ 0 < y ∧ y < -x then some [y, x - 1]
  else none
/-- A word behind the first rule. -/
def stepO : List Int → Option (List Int)
  | x :: y :: r => match ruleO x y with
    | some b => some (b ++ r)
    | none => (stepO (y :: r)).map (x :: ·)
  | _ => none

/-- Letters with numbers that are greater by so much. -/
def up (k : Int) (x : Int) : Int := if x < 0 then x - k else x + k
def upW (k : Int) (w : List Int) : List Int := w.map (up k)

/-- A word, if it is one. -/
def ifW (w : List Int) : Option (List Int) := if goodW w = true then some w else none

/-- The sums of a word: of x(0), of all others. -/
def sgn (x : Int) : Int := if x < 0 then -1 else 1
def num (x : Int) : Int := (if x < 0 then -x else x) - 1
def sumZ (w : List Int) : Int := (w.map fun x => if num x = 0 then sgn x else 0).sum
def sumO (w : List Int) : Int := (w.map fun x => if num x = 0 then 0 else sgn x).sum

end Go.Proofs.Ytplmbdljhgicfab

/-! Wd1 -/
namespace Go.Proofs.Ytplmbdljhgicfab
open Go.RowKit

theorem decide_lt_false {a b : Int} (h : b ≤ a) : decide (a < b) = false := by simp; omega

set_option maxHeartbeats 1000000 in
theorem wdIs_any (v : Value) (b1 : Nat) (L : List Int) (m : Int) (w : World) (hv : CellsI b1 w v L) (hm : 0 ≤ m) (hm2 : m ≤ 1000) :
    Calls Try.prog 117 #[v, .int .i64 m] w fun e w' => e = .returned (.bool (isW (m + 1) L)) ∧ w = w' := by
  obtain ⟨oa, cap, rfl, hcl, hcm, hcc⟩ := hv.form
  unfold maxLen at hcm
  clear hv
  have HC := Lib.hid hcc
  clear hcc
  go_enter Try.func117, Try.ntmps117
  go_wp2_with fail
  go_loop [9] (fun i => ∃ k : Nat, i = .int .i64 k ∧ k ≤ L.length ∧ Hid (isW (m + 1) L = isW (m + 1) (L.drop k))) (fun i => L.length - (intOf i).toNat)
  case atStart => exact ⟨0, rfl, Nat.zero_le _, rfl⟩
  case round =>
    obtain ⟨k, rfl, hk, he⟩ := hrel
    by_cases hlt : k < L.length
    · have hlt' : (k : Int) < (L.length : Int) := by omega
      obtain ⟨g, rfl, _, _, c1⟩ := HC.out k hlt
      have he' := he.out
      rw [isW_drop hlt] at he'
      generalize L.getD k 0 = x at c1 he'
      clear he
      cases hx : okL (m + 1) x with
      | false =>
        rw [hx, Bool.false_and] at he'
        have HE := Lib.hid he'
        have hx' := okL_false.1 hx
        clear he' hx
        by_cases h0 : x = 0
        · subst h0
          clear hx'
          go_wp2_with fail
          go_ret
          exact ⟨ret_bool HE.out.symm, rfl⟩
        · have h0' : (x == 0) = false := by rw [beq_eq_false_iff_ne]; exact h0
          have hno : x < -m - 1 ∨ m + 1 < x := by omega
          have HN := Lib.hid hno
          clear hx' h0 hno
          go_wp2_with fail
          refine (l1In_no x (-m - 1) (m + 1) _ HN.out).mono ?_; rintro e w1 ⟨rfl, rfl⟩
          go_wp2_with fail
          go_ret
          exact ⟨ret_bool HE.out.symm, rfl⟩
      | true =>
        rw [hx, Bool.true_and] at he'
        have HE := Lib.hid he'
        obtain ⟨h0, h1, h2⟩ := okL_iff.1 hx
        have h0' : (x == 0) = false := by rw [beq_eq_false_iff_ne]; exact h0
        have h1' : -m - 1 ≤ x := by omega
        clear he' hx h0 h1
        go_wp2_with fail
        refine (l1In_yes x (-m - 1) (m + 1) _ h1' h2).mono ?_; rintro e w1 ⟨rfl, rfl⟩
        go_wp2_with fail
        go_round
        case rel => exact ⟨k + 1, by go_num, by omega, HE⟩
        case measure => simp [intOf]; omega
    · obtain rfl : k = L.length := by omega
      have he' := he.out
      rw [isW_end] at he'
      have HE := Lib.hid he'
      clear he he'
      go_wp2_with fail
      go_ret
      exact ⟨ret_bool HE.out.symm, rfl⟩

theorem wdGood_any (v : Value) (b1 : Nat) (L : List Int) (w : World) (hv : CellsI b1 w v L) :
    Calls Try.prog 61 #[v] w fun e w' => e = .returned (.bool (goodW L)) ∧ w = w' := by
  have hI := wdIs_any v b1 L 20 w hv (by omega) (by omega)
  obtain ⟨oa, cap, rfl, hcl, hcm, _⟩ := hv.form
  clear hv
  unfold maxLen at hcm
  unfold goodW
  by_cases h : L.length ≤ 20
  · have h' : decide ((L.length : Int) ≤ 20) = true := by simp; omega
    rw [show decide (L.length ≤ 20) = true by simpa using h, Bool.true_and]
    go_enter Try.func61, Try.ntmps61
    go_wp2_with fail
    refine hI.mono ?_; rintro e w1 ⟨rfl, rfl⟩
    go_wp2_with fail
    go_ret
    exact ⟨rfl, rfl⟩
  · have h' : decide ((L.length : Int) ≤ 20) = false := by simp; omega
    rw [show decide (L.length ≤ 20) = false by simpa using h, Bool.false_and]
    clear hI
    go_enter Try.func61, Try.ntmps61
    go_wp2_with fail
    go_ret
    exact ⟨rfl, rfl⟩

set_option maxHeartbeats 1000000 in
theorem implIsWord_any (v : Value) (b1 : Nat) (L : List Int) (w : World) (hv : CellsI b1 w v L) :
    Calls Try.prog 65 #[v] w fun e w' => e = .returned (.bool (goodW L)) ∧ w = w' := by
  obtain ⟨oa, cap, rfl, hcl, hcm, hcc⟩ := hv.form
  unfold maxLen at hcm
  clear hv
  have HC := Lib.hid hcc
  clear hcc
  unfold goodW
  by_cases h : L.length ≤ 20
  · rw [show decide (L.length ≤ 20) = true by simpa using h, Bool.true_and]
    have hn : (L.length : Int) ≤ 20 := by omega
    clear h
    go_enter Try.func65, Try.ntmps65
    go_wp2_with fail
    go_loop [10] (fun i => ∃ k : Nat, i = .int .i64 k ∧ k ≤ L.length ∧ Hid (isW 21 L = isW 21 (L.drop k))) (fun i => L.length - (intOf i).toNat)
    case atStart => exact ⟨0, rfl, Nat.zero_le _, rfl⟩
    case round =>
      obtain ⟨k, rfl, hk, he⟩ := hrel
      by_cases hlt : k < L.length
      · have hlt' : (k : Int) < (L.length : Int) := by omega
        obtain ⟨g, rfl, _, _, c1⟩ := HC.out k hlt
        have he' := he.out
        rw [isW_drop hlt] at he'
        generalize L.getD k 0 = x at c1 he'
        clear he
        cases hx : okL 21 x with
        | false =>
          rw [hx, Bool.false_and] at he'
          have HE := Lib.hid he'
          have hx' := okL_false.1 hx
          clear he' hx
          by_cases h0 : x = 0
          · subst h0
            clear hx'
            go_wp2_with fail
            go_ret
            exact ⟨ret_bool HE.out.symm, rfl⟩
          · have h0' : (x == 0) = false := by rw [beq_eq_false_iff_ne]; exact h0
            by_cases h1 : x < -21
            · have h1' : decide (x < -21) = true := by simpa using h1
              clear hx' h0 h1
              go_wp2_with fail
              go_ret
              exact ⟨ret_bool HE.out.symm, rfl⟩
            · have h1' : decide (x < -21) = false := by simpa using h1
              have h2 : 21 < x := by omega
              clear hx' h0 h1
              go_wp2_with fail
              go_ret
              exact ⟨ret_bool HE.out.symm, rfl⟩
        | true =>
          rw [hx, Bool.true_and] at he'
          have HE := Lib.hid he'
          obtain ⟨h0, h1, h2⟩ := okL_iff.1 hx
          have h0' : (x == 0) = false := by rw [beq_eq_false_iff_ne]; exact h0
          have h1' : decide (x < -21) = false := by simp; omega
          have h2' : decide (21 < x) = false := by simp; omega
          clear he' hx h0 h1 h2
          go_wp2_with fail
          go_round
          case rel => exact ⟨k + 1, by go_num, by omega, HE⟩
          case measure => simp [intOf]; omega
      · obtain rfl : k = L.length := by omega
        have he' := he.out
        rw [isW_end] at he'
        have HE := Lib.hid he'
        clear he he'
        go_wp2_with fail
        go_ret
        exact ⟨ret_bool HE.out.symm, rfl⟩
  · rw [show decide (L.length ≤ 20) = false by simpa using h, Bool.false_and]
    have hn : 20 < (L.length : Int) := by omega
    clear h
    go_enter Try.func65, Try.ntmps65
    go_wp2_with fail
    go_ret
    exact ⟨rfl, rfl⟩

/-- Contracts that say that nothing turns, as those that may make memory. -/
theorem gives_of {P : Program} {f : FuncId} {args : Array Value} {w : World} {v : Value} (h : Calls P f args w fun e w' => e = .returned v ∧ w = w') : Calls P f args w (Gives v w) := h.mono fun _ _ ⟨he, hw⟩ => ⟨he, by rw [← hw]; exact Below.refl _ _⟩
end Go.Proofs.Ytplmbdljhgicfab

/-! Wd4n -/
namespace Go.Proofs.Ytplmbdljhgicfab
open Go.RowKit
theorem numberOf_any (x : Int) (w : World) (h1 : -1000 ≤ x) (h2 : x ≤ 1000) :
    Calls Try.prog 122 #[.int .i64 x] w fun e w' => e = .returned (.int .i64 (num x)) ∧ w = w' := by
  unfold num
  by_cases h : x < 0
  · rw [if_pos h]
    have h' : x < -x := by omega
    go_enter Try.func122, Try.ntmps122
    go_wp2_with fail
    go_ret
    exact ⟨ret_int (by try omega), rfl⟩
  · rw [if_neg h]
    go_enter Try.func122, Try.ntmps122
    go_wp2_with fail
    go_ret
    exact ⟨ret_int (by try omega), rfl⟩
end Go.Proofs.Ytplmbdljhgicfab

/-! LAll -/
namespace Go.Proofs.Ytplmbdljhgicfab
open Go.RowKit

theorem all_drop9 {L : List Int} {k : Nat} (p : Int → Bool) (h : k < L.length) : (L.drop k).all p = (p (L.getD k 0) && (L.drop (k + 1)).all p) := by
  rw [List.drop_eq_getElem_cons h, List.all_cons]; simp [h]
def in21 (x : Int) : Bool := decide (1 ≤ x) && decide (x ≤ 21)
theorem in21_iff {x : Int} : in21 x = true ↔ 1 ≤ x ∧ x ≤ 21 := by simp [in21]
theorem in21_false {x : Int} : in21 x = false ↔ x < 1 ∨ 21 < x := by rw [Bool.eq_false_iff, Ne, in21_iff]; omega

set_option maxHeartbeats 1000000 in
theorem l1All_pos (v : Value) (b1 : Nat) (L : List Int) (w : World) (hv : CellsI b1 w v L) (_hz : ∀ s ∈ L, -9223372036854775808 ≤ s ∧ s ≤ 9223372036854775807) :
    Calls Try.prog 62 #[v, .int .i64 1, .int .i64 21] w fun e w' => e = .returned (.bool (L.all in21)) ∧ w = w' := by
  obtain ⟨oa, cap, rfl, hcl, hcm, hcc⟩ := hv.form
  unfold maxLen at hcm
  clear hv
  have HC := Lib.hid hcc
  clear hcc
  go_enter Try.func62, Try.ntmps62
  go_wp2_with fail
  go_loop [11] (fun i => ∃ k : Nat, i = .int .i64 k ∧ k ≤ L.length ∧ Hid (L.all in21 = (L.drop k).all in21)) (fun i => L.length - (intOf i).toNat)
  case atStart => exact ⟨0, rfl, Nat.zero_le _, rfl⟩
  case round =>
    obtain ⟨k, rfl, hk, he⟩ := hrel
    by_cases hlt : k < L.length
    · have hlt' : (k : Int) < (L.length : Int) := by omega
      obtain ⟨g, rfl, _, _, c1⟩ := HC.out k hlt
      have he' := he.out
      rw [all_drop9 in21 hlt] at he'
      generalize L.getD k 0 = x at c1 he'
      clear he
      cases hx : in21 x with
      | false =>
        rw [hx, Bool.false_and] at he'
        have HE := Lib.hid he'
        have HX := Lib.hid (in21_false.1 hx)
        clear he' hx
        go_wp2_with fail
        refine (l1In_no x 1 21 _ HX.out).mono ?_; rintro e w1 ⟨rfl, rfl⟩
        go_wp2_with fail
        go_ret
        exact ⟨ret_bool HE.out.symm, rfl⟩
      | true =>
        rw [hx, Bool.true_and] at he'
        have HE := Lib.hid he'
        obtain ⟨h0, h1⟩ := in21_iff.1 hx
        clear he' hx
        go_wp2_with fail
        refine (l1In_yes x 1 21 _ h0 h1).mono ?_; rintro e w1 ⟨rfl, rfl⟩
        go_wp2_with fail
        go_round
        case rel => exact ⟨k + 1, by go_num, by omega, HE⟩
        case measure => simp [intOf]; omega
    · obtain rfl : k = L.length := by omega
      have he' := he.out
      rw [List.drop_length] at he'
      have HE : Hid (L.all in21 = true) := he'
      clear he he'
      go_wp2_with fail
      go_ret
      exact ⟨ret_bool HE.out.symm, rfl⟩

end Go.Proofs.Ytplmbdljhgicfab

/-! Ff17 -/
namespace Go.Proofs.Ytplmbdljhgicfab
open Go.RowKit

/-- The forest of a letter. -/
def letF (x : Int) : List Tr := List.replicate (x.toNat - 1) Tr.lf ++ [.nd .lf .lf]
/-- The forest of a word without inverses. -/
def worF (L : List Int) : List Tr := L.foldl (fun us x => stackF us (letF x)) []
theorem letF_length (x : Int) : (letF x).length = x.toNat - 1 + 1 := by simp [letF]
theorem letF_sum (x : Int) : sumT (letF x) = 1 := by unfold letF; rw [sumT_app, sumT_lf]; simp [sumT, Tr.carets]
theorem worF_take {L : List Int} {k : Nat} (h : k < L.length) : worF (L.take (k + 1)) = stackF (worF (L.take k)) (letF (L.getD k 0)) := by
  unfold worF
  rw [List.take_succ_eq_append_getElem h, List.foldl_append]
  simp [h]
theorem worF_bound (L : List Int) (h : ∀ x ∈ L, x ≤ 21) : ∀ k, k ≤ L.length → sumT (worF (L.take k)) = k ∧ (worF (L.take k)).length ≤ 21 := by
  intro k
  induction k with
  | zero => intro _; simp [worF, sumT]
  | succ k ih =>
    intro hk
    obtain ⟨h1, h2⟩ := ih (by omega)
    have hx := h (L.getD k 0) (by rw [List.getD_eq_getElem?_getD, List.getElem?_eq_getElem (show k < L.length by omega)]; exact List.getElem_mem _)
    rw [worF_take (by omega)]
    have h3 := (stackF_bound (worF (L.take k)) (letF (L.getD k 0))).1
    have h4 := stackF_length (worF (L.take k)) (letF (L.getD k 0)) 21 h2 (by rw [letF_length]; omega)
    rw [letF_sum] at h3
    omega
def posW (L : List Int) : Bool := goodW L && L.all in21
def ForestOfWord_o (L : List Int) : Option (List ByteArray) := if posW L = true then (if okF (worF L) = true then some (strs (worF L)) else none) else none
theorem ForestOfWord_no {L : List Int} (h : posW L = false) : AnsSs (ForestOfWord_o L) = AnsS2 [] false := by
  unfold AnsSs ForestOfWord_o
  simp [h]
theorem ForestOfWord_yes {L : List Int} (h : posW L = true) : AnsSs (ForestOfWord_o L) = AnsS2 (if okF (worF L) = true then strs (worF L) else []) (okF (worF L)) := by
  unfold AnsSs ForestOfWord_o
  cases okF (worF L) <;> simp [h]
theorem worF_strip (L : List Int) : stripT (worF L) = worF L := by
  rcases List.eq_nil_or_concat L with rfl | ⟨M, x, rfl⟩
  · rfl
  · unfold worF; rw [List.concat_eq_append, List.foldl_append]; exact stripT_stripT _

set_option maxRecDepth 100000 in
set_option maxHeartbeats 1000000 in
theorem foLetter_any (x : Int) (w : World) (h1 : 1 ≤ x) (h2 : x ≤ 21) :
    Calls Try.prog 64 #[.int .i64 x] w (GivesOwn (strs (letF x)) w) := by
  obtain ⟨i0, hi, hz0, hz1, hz2⟩ := info_parts info_str
  obtain ⟨n, hn⟩ : ∃ n : Nat, x = (n : Int) + 1 := ⟨x.toNat - 1, by omega⟩
  subst hn
  have HE : Hid (List.replicate n (⟨#[46]⟩ : ByteArray) ++ [⟨#[40, 46, 46, 41]⟩] = strs (letF ((n : Int) + 1))) := by
    show _ = _
    unfold strs letF
    rw [show ((n : Int) + 1).toNat - 1 = n by omega, List.map_append, List.map_replicate]
    rfl
  go_enter Try.func64, Try.ntmps64
  go_wp2_with fail
  go_loopw [3, 4] (fun u i wr => ∃ (k : Nat) (ss : List ByteArray), k ≤ n ∧ i = .int .i64 ((k : Int) + 1) ∧ OwnS w.heap.size wr u ss ∧ ss.length = k ∧ Hid (ss = List.replicate k (⟨#[46]⟩ : ByteArray)) ∧ Below w.heap.size w wr) (fun _ i _ => n + 1 - (intOf i).toNat)
  case atStart => exact ⟨0, [], Nat.zero_le _, rfl, OwnS.nil _ _, rfl, rfl, Below.refl _ _⟩
  case round =>
    obtain ⟨k, ss, hk, rfl, hown, hsl, he, hbw⟩ := hrel
    have hss9 : ss.length ≤ 21 := by omega
    have HSL := Lib.hid hsl
    unfold OwnS at hown
    by_cases hlt : k < n
    · have hc : (k : Int) + 1 < (n : Int) + 1 := by omega
      have hc' : (k : Int) < (n : Int) := by omega
      have HX : Hid (ss ++ [⟨#[46]⟩] = List.replicate (k + 1) (⟨#[46]⟩ : ByteArray)) := by show _ = _; rw [he.out, List.replicate_succ']
      clear he hsl
      go_wp2_with (at_builtin; refine wpList_append_own _ rfl _ _ 22 rfl w.heap.size 9 i0 (.string ⟨#[]⟩) 1 16 Try.underlying22 hi hz0 hz1 hz2 rfl (by decide) _ _ _ rfl (hown.alloc _) ⟨wr.heap.size, 0, none⟩ 1 1 [.string ⟨#[46]⟩] rfl rfl (new1 _ _ _) (oneS [⟨#[46]⟩]) (by unfold maxLen; omega) (by omega) (size_al hbw _) ?_; intro v' w9 hown' hgrow hnn)
      have hbw9 := below_app hbw hown (Nat.le_refl _) hgrow
      have hown1 : OwnS w.heap.size w9 v' (ss ++ [⟨#[46]⟩]) := OwnS.app (B := [⟨#[46]⟩]) hown'
      clear hown hown' hgrow hbw hnn
      go_wp2_with fail
      go_roundw
      case rel => exact ⟨k + 1, _, by omega, by go_num, hown1, by have := HSL.out; simp; omega, HX, hbw9⟩
      case measure => simp [intOf]; omega
    · obtain rfl : k = n := by omega
      have hc : ¬ ((k : Int) + 1 < (k : Int) + 1) := by omega
      have HX : Hid (ss ++ [⟨#[40, 46, 46, 41]⟩] = strs (letF ((k : Int) + 1))) := by show _ = _; rw [he.out]; exact HE.out
      clear he hsl
      go_wp2_with (at_builtin; refine wpList_append_own _ rfl _ _ 22 rfl w.heap.size 9 i0 (.string ⟨#[]⟩) 1 16 Try.underlying22 hi hz0 hz1 hz2 rfl (by decide) _ _ _ rfl (hown.alloc _) ⟨wr.heap.size, 0, none⟩ 1 1 [.string ⟨#[40, 46, 46, 41]⟩] rfl rfl (new1 _ _ _) (oneS [⟨#[40, 46, 46, 41]⟩]) (by unfold maxLen; omega) (by omega) (size_al hbw _) ?_; intro v' w9 hown' hgrow hnn)
      have hbw9 := below_app hbw hown (Nat.le_refl _) hgrow
      have hown1 : OwnS w.heap.size w9 v' (ss ++ [⟨#[40, 46, 46, 41]⟩]) := OwnS.app (B := [⟨#[40, 46, 46, 41]⟩]) hown'
      clear hown hown' hgrow hbw hnn
      go_wp2_with fail
      go_ret
      exact ⟨_, by rw [← HX.out]; exact hown1, hbw9, rfl⟩

set_option maxRecDepth 100000 in
set_option maxHeartbeats 1000000 in
theorem forestOfLetter_any (x : Int) (w : World) (h1 : 1 ≤ x) (h2 : x ≤ 21) :
    Calls Try.prog 67 #[.int .i64 x] w (GivesOwn (strs (letF x)) w) := by
  obtain ⟨i0, hi, hz0, hz1, hz2⟩ := info_parts info_str
  obtain ⟨n, hn⟩ : ∃ n : Nat, x = (n : Int) + 1 := ⟨x.toNat - 1, by omega⟩
  subst hn
  have HE : Hid (List.replicate n (⟨#[46]⟩ : ByteArray) ++ [⟨#[40, 46, 46, 41]⟩] = strs (letF ((n : Int) + 1))) := by
    show _ = _
    unfold strs letF
    rw [show ((n : Int) + 1).toNat - 1 = n by omega, List.map_append, List.map_replicate]
    rfl
  have hN : ∀ w, Calls Try.prog 122 #[.int .i64 ((n : Int) + 1)] w fun e w' => e = .returned (.int .i64 (n : Int)) ∧ w = w' := fun w => by
    have h3 := numberOf_any ((n : Int) + 1) w (by omega) (by omega)
    rw [show num ((n : Int) + 1) = (n : Int) by unfold num; split <;> omega] at h3
    exact h3
  have hcell : (w.alloc (.cells #[.string ⟨#[46]⟩] 9 (0, 0))).cell? ⟨w.heap.size, 0, none⟩ = some (.string ⟨#[46]⟩) := by
    have := heap_alloc_at w (.cells #[.string ⟨#[46]⟩] 9 (0, 0))
    simp only [World.cell?, this]; rfl
  have hb0 := nxAlloc (Below.refl w.heap.size w) (.cells #[.string ⟨#[46]⟩] 9 (0, 0))
  have hn20 : n ≤ 20 := by omega
  go_enter Try.func67, Try.ntmps67
  go_wp2_with fail
  refine (hN _).mono ?_; rintro e w1 ⟨rfl, rfl⟩
  go_wp2_with fail
  refine (repeatS_any ⟨#[46]⟩ n w.heap.size 1 _ (by omega) hcell).mono ?_; rintro e w2 ⟨g2, own2, hb2, rfl⟩
  have hrl : (List.replicate n (⟨#[46]⟩ : ByteArray)).length = n := List.length_replicate
  replace own2 := own2.mono hb0.size
  replace hb2 := nx hb0 hb2
  unfold OwnS at own2
  rw [hrl] at own2
  clear hcell
  go_wp2_with (at_builtin; refine wpList_append_own _ rfl _ _ 22 rfl w.heap.size 9 i0 (.string ⟨#[]⟩) 1 16 Try.underlying22 hi hz0 hz1 hz2 rfl (by decide) _ _ _ rfl (own2.alloc _) ⟨w2.heap.size, 0, none⟩ 1 1 [.string ⟨#[40, 46, 46, 41]⟩] rfl rfl (new1 _ _ _) (oneS [⟨#[40, 46, 46, 41]⟩]) (by unfold maxLen; omega) (by omega) (size_al hb2 _) ?_; intro v' w9 hown' hgrow hnn)
  have hbw9 := below_app hb2 own2 (Nat.le_refl _) hgrow
  have hown1 : OwnS w.heap.size w9 v' (List.replicate n (⟨#[46]⟩ : ByteArray) ++ [⟨#[40, 46, 46, 41]⟩]) := OwnS.app (A := List.replicate n (⟨#[46]⟩ : ByteArray)) (B := [⟨#[40, 46, 46, 41]⟩]) (by rw [hrl]; exact hown')
  clear own2 hown' hgrow hb2 hnn
  go_wp2_with fail
  go_ret
  exact ⟨_, by rw [← HE.out]; exact hown1, hbw9, rfl⟩
def limV3 (ok : Bool) (v : Value) : Value := if ok = true then v else .slice none 0 0

set_option maxRecDepth 100000 in
set_option maxHeartbeats 1000000 in
theorem specForestOfWord_any (v : Value) (b : Nat) (L : List Int) (w : World) (h : CellsI b w v L) (_hz : ∀ s ∈ L, -9223372036854775808 ≤ s ∧ s ≤ 9223372036854775807) :
    Calls Try.prog 20 #[v] w (AnsSs (ForestOfWord_o L) w) := by
  have HH := Lib.hid h
  have hG := fun w h => wdGood_any v b L w h
  have hA := fun w h => l1All_pos v b L w h _hz
  obtain ⟨oa, cap, rfl, hcl, hcm, hcc⟩ := h.form
  unfold maxLen at hcm
  have HC := Lib.hid hcc
  clear h hcc
  cases hp : goodW L with
  | false =>
    have HN := Lib.hid (ForestOfWord_no (L := L) (by unfold posW; rw [hp]; rfl))
    rw [hp] at hG
    clear hp
    go_enter Try.func20, Try.ntmps20
    go_wp2_with fail
    refine (hG _ HH.out).mono ?_; rintro e w1 ⟨rfl, rfl⟩
    go_wp2_with fail
    go_ret2
    rw [HN.out]
    exact ⟨_, OwnS.nil _ _, Below.refl _ _, rfl⟩
  | true =>
    rw [hp] at hG
    obtain ⟨hl20, hx21⟩ := goodW_iff.1 hp
    have hbd := worF_bound L (fun x hx => (hx21 x hx).2.2)
    have HB := Lib.hid hbd
    have HX := Lib.hid hx21
    cases hq : L.all in21 with
    | false =>
      have HN := Lib.hid (ForestOfWord_no (L := L) (by unfold posW; rw [hp, hq]; rfl))
      rw [hq] at hA
      clear hp hq hbd hx21
      go_enter Try.func20, Try.ntmps20
      go_wp2_with fail
      refine (hG _ HH.out).mono ?_; rintro e w1 ⟨rfl, rfl⟩
      go_wp2_with fail
      refine (hA _ HH.out).mono ?_; rintro e w1 ⟨rfl, rfl⟩
      go_wp2_with fail
      go_ret2
      rw [HN.out]
      exact ⟨_, OwnS.nil _ _, Below.refl _ _, rfl⟩
    | true =>
      have HY := Lib.hid (ForestOfWord_yes (L := L) (by unfold posW; rw [hp, hq]; rfl))
      have HPOS : Hid (∀ x ∈ L, 1 ≤ x) := fun x hx => by
        exact (in21_iff.1 ((List.all_eq_true.1 hq) x hx)).1
      rw [hq] at hA
      have hF : ∀ v b w, CellsS b w v (strs (worF L)) → Calls Try.prog 43 #[v] w (AnsSs (ForestOfWord_o L) w) := fun v b w h => by
        have hb9 := hbd L.length (Nat.le_refl _)
        rw [List.take_length] at hb9
        have h1 := foIf_any v b (worF L) w h (by omega) (by omega)
        rw [worF_strip] at h1
        rw [HY.out]; exact h1
      clear hp hq hbd hx21
      go_enter Try.func20, Try.ntmps20
      go_wp2_with fail
      refine (hG _ HH.out).mono ?_; rintro e w1 ⟨rfl, rfl⟩
      go_wp2_with fail
      refine (hA _ HH.out).mono ?_; rintro e w1 ⟨rfl, rfl⟩
      go_wp2_with fail
      go_loopw [4, 17] (fun u i wr => ∃ (k : Nat) (ts : List Tr), k ≤ L.length ∧ i = .int .i64 k ∧ OwnS w.heap.size wr u (strs ts) ∧ Hid (ts = worF (L.take k)) ∧ Below w.heap.size w wr) (fun _ i _ => L.length - (intOf i).toNat)
      case atStart => exact ⟨0, [], Nat.zero_le _, rfl, OwnS.nil _ _, rfl, Below.refl _ _⟩
      case round =>
        obtain ⟨k, ts, hk, rfl, hown, he, hbw⟩ := hrel
        by_cases hlt : k < L.length
        · have hlt' : (k : Int) < (L.length : Int) := by omega
          obtain ⟨g, rfl, _, hgl, c0⟩ := HC.out k hlt
          have c1 := (hbw.cell (p := ⟨g, k, none⟩) hgl).trans c0
          have hm : L.getD k 0 ∈ L := by rw [List.getD_eq_getElem?_getD, List.getElem?_eq_getElem hlt]; exact List.getElem_mem hlt
          have hx1 := HX.out _ hm
          have hpos := HPOS.out _ hm
          have hnext := worF_take hlt
          rw [← he.out] at hnext
          have hbk := HB.out k (by omega)
          rw [← he.out] at hbk
          generalize L.getD k 0 = x at *
          have hL := fun w => foLetter_any x w hpos hx1.2.2
          have hS := fun v b v2 b2 w h h2 => foStack_any v b ts v2 b2 (letF x) w h h2 (by omega) (by rw [letF_sum]; omega) (by omega) (by rw [letF_length]; omega)
          have HN : Hid (stackF ts (letF x) = worF (L.take (k + 1))) := hnext.symm
          have hx0 : ¬ x < 0 := by omega
          clear hnext he hm c0 hbk
          go_wp2_with fail
          refine (hL _).mono ?_; rintro e w2 ⟨v2, own2, hb2, rfl⟩
          have hown2 := hown.keep hb2
          go_wp2_with fail
          refine (hS _ _ v2 _ _ hown2.cells own2.cells).mono ?_; rintro e w3 ⟨v3, own3, hb3, rfl⟩
          have hbw2 := nx hbw hb2
          replace own3 := own3.mono hbw2.size
          have hbw3 := nx hbw2 hb3
          clear hown hown2 own2 hb2 hb3 hbw hbw2
          go_wp2_with fail
          go_roundw
          case rel => exact ⟨k + 1, _, by omega, by go_num, own3, HN, hbw3⟩
          case measure => simp [intOf]; omega
        · obtain rfl : k = L.length := by omega
          have h1 := he.out
          rw [List.take_length] at h1
          subst h1
          clear he
          go_wp2_with fail
          refine (hF _ _ _ hown.cells).mono ?_; rintro e w4 ⟨v4, own4, hb4, rfl⟩
          go_wp2_with fail
          go_ret2
          exact ⟨_, own4.mono hbw.size, nx hbw hb4, rfl⟩

set_option maxRecDepth 100000 in
set_option maxHeartbeats 1000000 in
theorem implForestOfWord_any (v : Value) (b : Nat) (L : List Int) (w : World) (h : CellsI b w v L) (_hz : ∀ s ∈ L, -9223372036854775808 ≤ s ∧ s ≤ 9223372036854775807) :
    Calls Try.prog 22 #[v] w (AnsSs (ForestOfWord_o L) w) := by
  have HH := Lib.hid h
  have hG := fun w h => implIsWord_any v b L w h
  obtain ⟨oa, cap, rfl, hcl, hcm, hcc⟩ := h.form
  unfold maxLen at hcm
  have HC := Lib.hid hcc
  clear h hcc
  cases hp : goodW L with
  | false =>
    have HN := Lib.hid (ForestOfWord_no (L := L) (by unfold posW; rw [hp]; rfl))
    rw [hp] at hG
    clear hp
    go_enter Try.func22, Try.ntmps22
    go_wp2_with fail
    refine (hG _ HH.out).mono ?_; rintro e w1 ⟨rfl, rfl⟩
    go_wp2_with fail
    go_ret2
    rw [HN.out]
    exact ⟨_, OwnS.nil _ _, Below.refl _ _, rfl⟩
  | true =>
    rw [hp] at hG
    obtain ⟨hl20, hx21⟩ := goodW_iff.1 hp
    have hbd := worF_bound L (fun x hx => (hx21 x hx).2.2)
    have HB := Lib.hid hbd
    have HX := Lib.hid hx21
    clear hp hbd hx21
    go_enter Try.func22, Try.ntmps22
    go_wp2_with fail
    refine (hG _ HH.out).mono ?_; rintro e w1 ⟨rfl, rfl⟩
    go_wp2_with fail
    go_loopw [4, 12] (fun u i wr => ∃ (k : Nat) (ts : List Tr), k ≤ L.length ∧ i = .int .i64 k ∧ OwnS w.heap.size wr u (strs ts) ∧ Hid (ts = worF (L.take k)) ∧ Hid (∀ j, j < k → 1 ≤ L.getD j 0) ∧ Below w.heap.size w wr) (fun _ i _ => L.length - (intOf i).toNat)
    case atStart => exact ⟨0, [], Nat.zero_le _, rfl, OwnS.nil _ _, rfl, fun j hj => absurd hj (Nat.not_lt_zero j), Below.refl _ _⟩
    case round =>
      obtain ⟨k, ts, hk, rfl, hown, he, hpo, hbw⟩ := hrel
      by_cases hlt : k < L.length
      · have hlt' : (k : Int) < (L.length : Int) := by omega
        obtain ⟨g, rfl, _, hgl, c0⟩ := HC.out k hlt
        have c1 := (hbw.cell (p := ⟨g, k, none⟩) hgl).trans c0
        have hm : L.getD k 0 ∈ L := by rw [List.getD_eq_getElem?_getD, List.getElem?_eq_getElem hlt]; exact List.getElem_mem hlt
        have hx1 := HX.out _ hm
        have hnext := worF_take hlt
        rw [← he.out] at hnext
        have hbk := HB.out k (by omega)
        rw [← he.out] at hbk
        by_cases hneg : L.getD k 0 < 0
        · have HN : Hid (AnsSs (ForestOfWord_o L) = AnsS2 [] false) := ForestOfWord_no (by
            unfold posW
            rw [Bool.and_eq_false_iff]
            right
            rw [List.all_eq_false]
            exact ⟨_, hm, by rw [Bool.not_eq_true, in21_false]; omega⟩)
          generalize L.getD k 0 = x at *
          clear hnext he hm c0 hbk hpo
          go_wp2_with fail
          go_ret2
          rw [HN.out]
          exact ⟨_, OwnS.nil _ _, hbw, rfl⟩
        · have hpos : 1 ≤ L.getD k 0 := by have := hx1.1; omega
          have HPO : Hid (∀ j, j < k + 1 → 1 ≤ L.getD j 0) := fun j hj => by
            by_cases hjk : j < k
            · exact hpo.out j hjk
            · obtain rfl : j = k := by omega
              exact hpos
          generalize L.getD k 0 = x at *
          have hL := fun w => forestOfLetter_any x w hpos hx1.2.2
          have hS := fun v b v2 b2 w h h2 => stacked_any v b ts v2 b2 (letF x) w h h2 (by omega) (by rw [letF_sum]; omega) (by omega) (by rw [letF_length]; omega)
          have HN : Hid (stackF ts (letF x) = worF (L.take (k + 1))) := hnext.symm
          clear hnext he hm c0 hbk hpo
          go_wp2_with fail
          refine (hL _).mono ?_; rintro e w2 ⟨v2, own2, hb2, rfl⟩
          have hown2 := hown.keep hb2
          go_wp2_with fail
          refine (hS _ _ v2 _ _ hown2.cells own2.cells).mono ?_; rintro e w3 ⟨v3, own3, hb3, rfl⟩
          have hbw2 := nx hbw hb2
          replace own3 := own3.mono hbw2.size
          have hbw3 := nx hbw2 hb3
          clear hown hown2 own2 hb2 hb3 hbw hbw2
          go_wp2_with fail
          go_roundw
          case rel => exact ⟨k + 1, _, by omega, by go_num, own3, HN, HPO, hbw3⟩
          case measure => simp [intOf]; omega
      · obtain rfl : k = L.length := by omega
        have h1 := he.out
        rw [List.take_length] at h1
        subst h1
        have HY := Lib.hid (ForestOfWord_yes (L := L) (by
          unfold posW
          rw [Bool.and_eq_true]
          refine ⟨goodW_iff.2 ⟨hl20, HX.out⟩, List.all_eq_true.2 fun x hx => ?_⟩
          obtain ⟨j, hj, rfl⟩ := List.mem_iff_getElem.1 hx
          have h2 := hpo.out j hj
          rw [List.getD_eq_getElem?_getD, List.getElem?_eq_getElem hj, Option.getD_some] at h2
          have h3 := (HX.out _ hx).2.2
          exact in21_iff.2 ⟨h2, h3⟩))
        have hb9 := HB.out L.length (Nat.le_refl _)
        rw [List.take_length] at hb9
        have hV : ∀ v b w, CellsS b w v (strs (worF L)) → Calls Try.prog 47 #[v] w (fun e w' => e = .returned (.tuple #[limV3 (okF (worF L)) v, .bool (okF (worF L))]) ∧ Below w.heap.size w w') := fun v b w h => withinLimitsF_any v b (worF L) w h (by omega) (by omega)
        generalize okF (worF L) = ok at *
        generalize worF L = J at *
        clear he hpo hb9
        go_wp2_with fail
        refine (hV _ _ _ hown.cells).mono ?_; rintro e w4 ⟨rfl, hb4⟩
        replace hown := hown.keep hb4
        replace hb4 := nx hbw hb4
        cases ok with
        | true =>
          have HAP : Hid (AnsSs (ForestOfWord_o L) = AnsS2 (strs J) true) := by show _ = _; rw [HY.out, if_pos rfl]
          unfold limV3
          rw [if_pos rfl]
          clear HY hV
          go_wp2_with fail
          go_ret2
          rw [HAP.out]
          exact ⟨_, hown, hb4, rfl⟩
        | false =>
          have HAP : Hid (AnsSs (ForestOfWord_o L) = AnsS2 [] false) := by show _ = _; rw [HY.out, if_neg (by decide)]
          unfold limV3
          rw [if_neg (by decide)]
          clear HY hV
          go_wp2_with fail
          go_ret2
          rw [HAP.out]
          exact ⟨_, OwnS.nil _ _, hb4, rfl⟩

end Go.Proofs.Ytplmbdljhgicfab

/-! MarkT -/
namespace Go.Proofs.Ytplmbdljhgicfab
open Go.RowKit

theorem OwnS.kept2 {base : Nat} {w w' : World} {v : Value} {xs : List ByteArray} {r : Option Nat} (h : OwnS base w v xs) (hg : w.grownBy w' r) (hne : ∀ k, v.ownBlock = some k → r ≠ some k) : OwnS base w' v xs := by
  refine World.ownsRow.kept h hg ?_
  rcases h.2 with ⟨hv, _⟩ | ⟨g', cap, cur, hv, hb, _⟩
  · exact .inl (by rw [hv]; rfl)
  · right
    intro e
    rw [hv] at e hne
    exact hne g' rfl e.symm
/-- A call that hands back a number, and leaves the slice v with other texts; no other block turns. -/
def MarkedRow (base : Nat) (r : Int) (v : Value) (xs : List ByteArray) (w : World) (e : Ending) (w' : World) : Prop := e = .returned (.int .i64 r) ∧ OwnS base w' v xs ∧ w.grownBy w' v.ownBlock

set_option maxHeartbeats 1000000 in
theorem markStringS_row (base : Nat) (v : Value) (xs : List ByteArray) (n : Nat) (hn : xs.length = n) (k : Nat) (z : Int) (hz : z = (k : Int)) (w : World) (hk0 : 0 < k) (hk1 : k ≤ 1000000000) (hn9 : n ≤ 1000000000) (h : OwnS base w v xs) :
    Calls Try.prog 15 #[v, .int .i64 z] w (MarkedRow base (z + n) v (marksS k n) w) := by
  subst hz
  rcases h.cells with ⟨rfl, rfl⟩ | ⟨g, cap, rfl, hb1, hg1, hc1, hm1, hx1, hf1⟩
  · obtain rfl : n = 0 := hn.symm
    have H := Lib.hid h
    clear h hn
    go_enter Try.func15, Try.ntmps15
    go_wp2_with fail
    go_loopw [1, 5] (fun v i wr => v = .int .i64 k ∧ i = .int .i64 0 ∧ wr = w) (fun _ _ _ => 0)
    case atStart => exact ⟨rfl, rfl, rfl⟩
    case round =>
      obtain ⟨rfl, rfl, rfl⟩ := hrel
      go_wp2_with fail
      go_ret
      exact ⟨ret_int (by simp), H.out, grown_refl _ _⟩
  · subst hn
    refine (markStringS_one base g cap xs.length xs rfl k w hk0 hk1 hn9 h).mono ?_
    rintro e w' ⟨he, ho, hg⟩
    exact ⟨by rw [he]; exact ret_int (by push_cast; rfl), ho, hg⟩
theorem heldStringS_i (b1 : Nat) (v1 : Value) (n k : Nat) (z : Int) (hz : z = (k : Int)) (w : World) (hk0 : 0 < k) (hk1 : k ≤ 1000000000) (hn9 : n ≤ 1000000000) (h1 : CellsS b1 w v1 (marksS k n)) :
    Calls Try.prog 16 #[v1, .int .i64 z] w (Gives (.int .i64 (z + n)) w) := by
  subst hz
  exact heldStringS_any b1 v1 n k w hk0 hk1 hn9 h1
end Go.Proofs.Ytplmbdljhgicfab

/-! WForestOfWord -/
namespace Go.Proofs.Ytplmbdljhgicfab
open Go.RowKit
theorem ForestOfWord_len (L : List Int) : ((ForestOfWord_o L).getD []).length ≤ 1000000000 := by
  unfold ForestOfWord_o
  split
  · split
    · next ho => have := (okF_iff.1 ho).1; rw [Option.getD_some, strs_length]; omega
    · simp
  · simp

set_option maxRecDepth 100000 in
set_option maxHeartbeats 2000000 in
theorem fnExactForestOfWord_law (w : World) (oa : Option Addr) (n cap : Nat) (L : List Int) (hl : L.length = n) (hl2 : (n : Int) ≤ 9223372036854775807) (_hz : ∀ s ∈ L, -9223372036854775808 ≤ s ∧ s ≤ 9223372036854775807) (hin : InI w oa L) :
    Calls Try.prog 5 #[.slice oa n cap] w fun e w' => e = .returned (.bool true) ∧ Below w.heap.size w w' := by
  have HI := Lib.hid hin
  have HL := Lib.hid hl
  clear hin hl
  by_cases hbig : (1048576 : Int) < n
  · clear _hz
    go_enter Try.func5, Try.ntmps5
    go_wp2_with fail
    go_ret
    exact ⟨rfl, Below.refl _ _⟩
  have hS := fun v b w h => specForestOfWord_any v b L w h _hz
  have hI := fun v b w h => implForestOfWord_any v b L w h _hz
  have hn9 := ForestOfWord_len L
  obtain ⟨o, ho⟩ : ∃ o, o = ForestOfWord_o L := ⟨_, rfl⟩
  rw [← ho] at hn9
  simp only [← ho] at hS hI
  clear ho
  obtain ⟨xs, ok, hx, hk⟩ : ∃ xs ok, xs = o.getD [] ∧ ok = o.isSome := ⟨_, _, rfl, rfl⟩
  have hS' : ∀ v b w, CellsI b w v L → Calls Try.prog 20 #[v] w (AnsS2 xs ok w) := by rw [hx, hk]; exact hS
  have hI' : ∀ v b w, CellsI b w v L → Calls Try.prog 22 #[v] w (AnsS2 xs ok w) := by rw [hx, hk]; exact hI
  rw [← hx] at hn9
  clear hS hI hx hk
  have hT := fun w h => toIntS_any oa cap n L w HL.out (by omega) h
  clear _hz
  go_enter Try.func5, Try.ntmps5
  go_wp2_with fail
  refine (hT _ HI.out).mono ?_; rintro e w1 ⟨pg, po, hb1, rfl⟩
  go_wp2_with fail
  refine (hS' _ _ _ po.cells).mono ?_; rintro e w2 ⟨v0, own0, hb2, rfl⟩
  have hbw2 := nx hb1 hb2
  have hs2 := hbw2.size
  clear po hb1 hb2
  go_wp2_with fail
  refine (hT _ (HI.out.keep hbw2)).mono ?_; rintro e w3 ⟨qg, qo, hb3, rfl⟩
  have hqg := qo.lt
  go_wp2_with fail
  refine (hI' _ _ _ qo.cells).mono ?_; rintro e w4 ⟨v1, own1, hb4, rfl⟩
  have hB4 := nx hb3 hb4
  replace qo := qo.keep hb4
  clear hb4
  go_wp2_with fail
  refine (eqStringS_any _ _ v1 v0 xs _ own1.cells (own0.keep hB4).cells).mono ?_; rintro e w5 ⟨rfl, d5, hw5⟩
  have hb5 : Below w4.heap.size w4 w5 := by rw [hw5]; exact drewB (Below.refl _ _) d5
  clear hw5
  have hB5 := nx hB4 hb5
  replace qo := qo.keep hb5
  replace own1 := own1.keep hb5
  clear hb5 hB4
  go_wp2_with fail
  refine (hT _ (HI.out.keep (nx hbw2 hB5))).mono ?_; rintro e w6 ⟨rg, ro, hb6, rfl⟩
  have hB6 := nx hB5 hb6
  replace qo := qo.keep hb6
  replace own1 := own1.keep hb6
  clear hb6 hB5
  go_wp2_with fail
  refine (eqIntS_any _ _ _ _ L _ qo.cells ro.cells).mono ?_; rintro e w7 ⟨rfl, d7, hw7⟩
  have hb7 : Below w6.heap.size w6 w7 := by rw [hw7]; exact drewB (Below.refl _ _) d7
  clear hw7 ro
  have hB7 := nx hB6 hb7
  replace qo := qo.keep hb7
  replace own1 := own1.keep hb7
  clear hb7 hB6
  go_wp2_with fail
  refine (markIntS_one w2.heap.size qg n n L HL.out 1 _ (by omega) (by omega) (by omega) qo).mono ?_; rintro e w8 ⟨rfl, _, hg8⟩
  have hB8 := hB7.trans (grown_below hg8 hB7.size hqg.1)
  replace own1 := own1.kept hg8 hqg.2
  clear hB7 hg8 qo
  go_wp2_with fail
  refine (eqStringS_any _ _ v1 v0 xs _ own1.cells (own0.keep hB8).cells).mono ?_; rintro e w9 ⟨rfl, d9, hw9⟩
  have hb9 : Below w8.heap.size w8 w9 := by rw [hw9]; exact drewB (Below.refl _ _) d9
  clear hw9
  have hB9 := nx hB8 hb9
  replace own1 := own1.keep hb9
  clear hb9 hB8
  go_wp2_with fail
  have hg1 := fun k hk => Nat.le_trans hb3.size (ownsRow_ge own1 k hk)
  refine (markStringS_row w3.heap.size v1 xs xs.length rfl 1 _ rfl _ (by omega) (by omega) hn9 own1).mono ?_; rintro e w10 ⟨rfl, own10, hgr⟩
  have hB10 := hB9.grown hgr hB9.size hg1
  clear hB9 hgr own1
  go_wp2_with fail
  refine (heldStringS_i _ v1 xs.length 1 _ rfl _ (by omega) (by omega) hn9 own10.cells).mono ?_; rintro e w11 ⟨rfl, hb11⟩
  have hB11 := nx hB10 hb11
  replace own10 := own10.keep hb11
  clear hb11 hB10
  go_wp2_with fail
  refine (hT _ (HI.out.keep (nx hbw2 hB11))).mono ?_; rintro e w12 ⟨sg, so, hb12, rfl⟩
  have hB12 := nx hB11 hb12
  replace own10 := own10.keep hb12
  clear hb12 hB11
  go_wp2_with fail
  refine (hI' _ _ _ so.cells).mono ?_; rintro e w13 ⟨v2, own2, hb13, rfl⟩
  have hB13 := nx hB12 hb13
  replace own10 := own10.keep hb13
  clear hb13 hB12 so
  go_wp2_with fail
  refine (eqStringS_any _ _ v2 v0 xs _ own2.cells (own0.keep hB13).cells).mono ?_; rintro e w14 ⟨rfl, d14, hw14⟩
  have hb14 : Below w13.heap.size w13 w14 := by rw [hw14]; exact drewB (Below.refl _ _) d14
  clear hw14
  have hB14 := nx hB13 hb14
  replace own10 := own10.keep hb14
  clear hb14 hB13
  go_wp2_with fail
  refine (heldStringS_i _ v1 xs.length 1 _ rfl _ (by omega) (by omega) hn9 own10.cells).mono ?_; rintro e w15 ⟨rfl, hb15⟩
  go_wp2_with fail
  go_ret
  exact ⟨rfl, nx (nx hbw2 hB14) hb15⟩

theorem fnExactForestOfWord_walk (W : World) (a : Option Addr) (len cap : Nat) (z : List Int) (h : IsInts W a len cap z) :
    Calls Try.prog 5 #[.slice a len cap] W fun e w' => e = .returned (.bool true) ∧ Below W.heap.size W w' := by
  obtain ⟨h1, h2, h3, h4⟩ := h.inI
  exact fnExactForestOfWord_law W a len cap (z.take len) h2 h3 h4 h1

end Go.Proofs.Ytplmbdljhgicfab

/-! LFnExactForestOfWord -/
namespace Go.Proofs.Ytplmbdljhgicfab.fnExactForestOfWord
open Go.ChangeShapes Go.WideShapes Go.ChangeAt Go.RowKit
open Go.ChangeMaps (open_string shut_string)
set_option linter.unusedVariables false

theorem own : ownKnob Try.prog.godebug = none := by kernel_rfl
theorem laidOut : laidOutB Try.prog = true := by kernel_rfl

set_option maxRecDepth 100000 in
theorem lifted (os : Os) (started : os.Started) (H : Type) (enc : TypeId × Value → H) :
    ReturnsInHanded {} Try.checked os 5 .any (Rows.fnExactForestOfWordSpec.pre6 enc Try.prog Try.f5 Rows.fnExactForestOfWordRow.domain false) (Rows.fnExactForestOfWordSpec.post enc Try.prog Try.f5 false true false false) := by
  refine returnsInHanded_of_change (C := Try.checked) own started (by kernel_rfl) Try.func5
    (ChangeSpec.witness6 (enc := enc) (C := Try.checked) false ⟨#[], #[.slice none 0 0], []⟩ 8 (by kernel_rfl) (by kernel_rfl) (by kernel_rfl) (by kernel_rfl)) ?_
  intro W base args ds gs before hval0 hW hcnd _
  have hval : ∀ (j : Nat) t v, Try.f5.params[j]? = some t → args[j]? = some v → Value.okWide Try.prog W .any base t v := hval0
  have hW' := hW
  obtain ⟨p, q, hA0, hV, rfl, hfz, hnd⟩ := hW
  have hA : DataW.TrodAll enc Try.prog W 0 (fun _ => true) true Try.f5.params.toList args.toList ds p := hA0
  rw [Try.params5] at hA hval
  obtain ⟨v0, vs0, d0, ds0, p0, q0, hargs, rfl, rfl, h0, r0⟩ := trodAll_cons hA
  obtain ⟨rfl, rfl, rfl⟩ := trodAll_nil r0
  obtain rfl : args = #[v0] := by cases args; simp_all
  obtain ⟨rfl, rfl⟩ := trodVars_none hV
  obtain ⟨a0, len0, cap0, rfl⟩ := okWide_slice Try.underlying33 (hval 0 33 v0 rfl rfl)
  have k0 := h0
  have lt0 : ∀ x ∈ p0, x.block < W.heap.size := by obtain ⟨m, hm⟩ := k0; exact DataW.trod_lt m _ _ _ hm
  obtain ⟨z0, w0⟩ : ∃ zs, IsInts W a0 len0 cap0 zs := by
    obtain ⟨fuel, hf⟩ := h0
    rcases open_ints Try.underlying33 Try.underlying3 (by kernel_rfl) hf with ⟨hcs, _⟩ | ⟨x, l, c, zs, hcs, _, hl, hm, hz, _, hcell, hwz⟩
    · simp [Value.cells] at hcs
      obtain ⟨rfl, rfl, rfl⟩ := hcs
      exact ⟨[], .inl ⟨rfl, rfl, rfl, rfl⟩⟩
    · simp [Value.cells] at hcs
      obtain ⟨rfl, rfl, rfl⟩ := hcs
      exact ⟨zs, .inr ⟨_, rfl, hl, hm, by simpa using hz, hcell, hwz⟩⟩
  clear hA0 hval0
  simp only [List.append_nil] at hW'
  refine (fnExactForestOfWord_walk W a0 len0 cap0 z0 w0).mono fun e W' ⟨he, bel⟩ => ?_
  subst he
  exact ⟨_, rfl, _, _, _, [], _, [], hW', trodAll_mk1 (shut_bool Try.underlying4 _), (trodAll_cons_mk (Below.trod laidOut (by kernel_rfl) (of_decide_eq_true (by kernel_rfl)) k0 bel lt0) trodAll_mk0), rfl, bel.frame _, fun h => by cases h⟩

theorem over : Rows.fnExactForestOfWordRow.holds Try.pinned (OpenSpec.ofChange Rows.fnExactForestOfWordSpec) :=
  OpenClaim.holds_of_wide 5 Try.f5 rfl rfl rfl rfl rfl rfl rfl ⟨rfl, rfl, rfl, rfl, rfl⟩ rfl rfl rfl rfl rfl (by kernel_rfl) Try.func5 (by kernel_rfl)
    (of_decide_eq_true (by kernel_rfl)) (by unfold Func.isWrapper; first | (rw [if_pos (by decide +kernel)]; kernel_rfl) | (rw [if_neg (by decide +kernel)]; exact ⟨rfl, rfl⟩))
    (fun os started H enc _ => lifted os started H enc)

theorem proved : Rows.FnExactForestOfWordSaid := over
#print axioms proved
end Go.Proofs.Ytplmbdljhgicfab.fnExactForestOfWord
