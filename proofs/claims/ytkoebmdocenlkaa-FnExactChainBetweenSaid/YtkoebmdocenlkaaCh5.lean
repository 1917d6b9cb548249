/- Walks: spec.brChain. -/
import Derived.Test.YtkoebmdocenlkaaCh4
namespace Go.Proofs.Ytkoebmdocenlkaa
open Go.RowKit

def lwV (v : Value) : Nat := match v with
  | .string s => match treeOf s with
    | some t => t.lw
    | none => 0
  | _ => 0
theorem lwV_str {t : Tr} (h : t.carets ≤ 8) : lwV (.string t.str) = t.lw := by
  show (match treeOf t.str with | some t => t.lw | none => 0) = t.lw
  rw [treeOf_str t h]
theorem chainT_head (t : Tr) : chainT t = t :: (chainT t).tail := by
  cases h : nextT t with
  | none => rw [chainT_none h]; rfl
  | some u => rw [chainT_some h]; rfl
theorem strL_append (a b : List Tr) : strL (a ++ b) = strL a ++ strL b := List.map_append ..

set_option maxRecDepth 100000 in
set_option maxHeartbeats 2000000 in
theorem brChain_any (t : Tr) (w : World) (ht : t.carets ≤ 8) :
    Calls Try.prog 65 #[.string t.str] w (GivesOwn (strL (chainT t)) w) := by
  obtain ⟨i0, hi, hz0, hz1, hz2⟩ := info_parts info_str
  have hz : (⟨#[]⟩ : ByteArray).size = 0 := rfl
  have hPl : ∀ (u : Tr) (w : World), u.carets ≤ 8 → Calls Try.prog 53 #[.string u.str, .string ⟨#[]⟩, .bool false] w (GivesOwn (u.spots false ⟨#[]⟩) w) := fun u w hu => brPlaces_any false u ⟨#[]⟩ w (by omega) (by omega)
  have hCL := (chain65 (t := t) ht).1
  clear hz
  obtain ⟨C, hC⟩ : ∃ C, C = chainT t := ⟨_, rfl⟩
  rw [← hC] at hCL ⊢
  have HCt := Lib.hid hC
  clear hC
  go_enter Try.func65, Try.ntmps65
  go_wp2_with fail
  have hb0 := nxAlloc (Below.refl w.heap.size w) (.cells #[.string t.str] 9 (0, 0))
  have own0 := OwnS.one w t.str
  generalize w.alloc (.cells #[.string t.str] 9 (0, 0)) = w0 at *
  refine (hPl t _ ht).mono ?_; rintro e w1 ⟨v1, own1, hb1, rfl⟩
  replace own0 := own0.keep hb1
  have hbw1 := nx hb0 hb1
  have hsz1 := Nat.le_trans hb0.size (Nat.le_refl _)
  replace own1 := own1.mono hsz1
  clear hb0 hb1 hsz1
  go_wp2_with fail
  go_loopw [0, 3, 4] (fun tv ov pv wr => ∃ (u : Tr) (ss : List ByteArray), tv = .string u.str ∧ u.carets ≤ 8 ∧ OwnS w.heap.size wr ov ss ∧ OwnS w.heap.size wr pv (u.spots false ⟨#[]⟩) ∧ ss.length ≤ 65 ∧ Hid (strL C = ss ++ strL (chainT u).tail) ∧ Below w.heap.size w wr) (fun tv _ _ _ => lwV tv)
  case atStart => exact ⟨t, [t.str], rfl, ht, own0, own1, by simp, by show strL C = _; rw [HCt.out, chainT_head t]; rfl, hbw1⟩
  case round =>
    obtain ⟨u, ss, rfl, hu8, hown, hpl, hss, he, hbw⟩ := hrel
    cases hL : u.spots false ⟨#[]⟩ with
    | nil =>
      rw [hL] at hpl
      obtain ⟨oa, c, hv, _⟩ := hpl.srcT
      have hv' : u4 = .slice oa 0 c := hv
      subst hv'
      have hfin : Hid (strL C = ss) := by
        have h9 := he.out
        rw [chainT_none (nextT_nil hL)] at h9
        show _ = _
        rw [h9]; simp [strL]
      clear hL hpl hv he
      go_wp2_with fail
      go_ret
      exact ⟨_, by rw [hfin.out]; exact hown, hbw, rfl⟩
    | cons a as1 =>
      obtain ⟨x, hx, hnx⟩ := nextT_cons hL
      have hxl := nextT_lw hnx
      have hxc := nextT_carets hnx
      have hsz := spots_size (k := false) u ⟨#[]⟩ a (by rw [hL]; simp)
      have hz : (⟨#[]⟩ : ByteArray).size = 0 := rfl
      have hA := fun w => brAt_any false _ u a w rfl (by omega) (by rw [← Lib.size_eq]; omega)
      rw [hx] at hA
      have hA' : ∀ w, Calls Try.prog 81 #[.string u.str, .string a, .bool false] w (fun e w' => Below w.heap.size w w' ∧ e = .returned (.tuple #[.string x.str, .bool true])) := fun w => (hA w).mono fun e w' ⟨v, h2, h3, h4⟩ => ⟨h3, by rw [h4, h2]⟩
      have hnext : strL C = (ss ++ [x.str]) ++ strL (chainT x).tail := by
        rw [he.out, chainT_some hnx, List.tail_cons]
        rw [show strL (chainT x) = x.str :: strL (chainT x).tail by rw [chainT_head x]; rfl]
        simp
      have hss2 : (ss ++ [x.str]).length ≤ 65 := by
        have h9 := congrArg List.length hnext
        rw [strL_length, List.length_append] at h9
        omega
      have HX := Lib.hid hnext
      have HSS := Lib.hid hss2
      have hlu : Hid (lwV (.string u.str) = u.lw) := lwV_str hu8
      have hlx : Hid (lwV (.string x.str) = x.lw) := lwV_str (by omega)
      have hPx := fun w => hPl x w (by omega)
      have hl9 := spots_len (k := false) u ⟨#[]⟩
      rw [hL] at hpl hl9
      obtain ⟨gp, cp, hv⟩ := hpl.shape (by simp)
      have ca : wr.cell? ⟨gp, 0, none⟩ = some (.string a) := by
        have h9 := hpl
        rw [hv] at h9
        have := World.ownsRow.cellAt h9 0 (by simp)
        rw [this]; rfl
      obtain ⟨nl, hnl⟩ : ∃ n, n = (a :: as1).length := ⟨_, rfl⟩
      have hnl1 : 0 < nl := by rw [hnl]; simp
      have hnl9 : nl ≤ 60 := by omega
      have hv' : u4 = .slice (some ⟨gp, 0, none⟩) nl cp := by rw [hv, hnl]
      have g0 : (0 : Int) < (nl : Int) := by omega
      have HL2 := Lib.hid (⟨hxl, hxc⟩ : x.lw < u.lw ∧ x.carets = u.carets)
      have hx8 : x.carets ≤ 8 := by omega
      clear hL hpl hv he hA hx hnx hsz hz hnext hss2 hnl hl9 hxl hxc hPl
      subst hv'
      unfold OwnS at hown
      generalize hxs : x.str = xs at *
      have HXS := Lib.hid hxs
      clear hxs
      go_wp2_with fail
      refine (hA' _).mono ?_; rintro e w2 ⟨hb2, rfl⟩
      replace hown := ownsRow_keep hown hb2
      have hbw2 := nx hbw hb2
      clear hA' ca
      go_wp2_with (at_builtin; refine wpList_append_own _ rfl _ _ 25 rfl w.heap.size 9 i0 (.string ⟨#[]⟩) 1 16 Try.underlying25 hi hz0 hz1 hz2 rfl (by decide) _ _ _ rfl (hown.alloc _) ⟨w2.heap.size, 0, none⟩ 1 1 [.string xs] rfl rfl (new1 _ _ _) (oneS [xs]) (by unfold maxLen; omega) (by omega) (size_al hbw2 _) ?_; intro v' w9 hown' hgrow hnn)
      have hbw9 := below_app hbw2 hown (Nat.le_refl _) hgrow
      have hown1 : OwnS w.heap.size w9 v' (ss ++ [xs]) := OwnS.app (B := [xs]) hown'
      clear hown hown' hgrow hnn hbw2 hbw hb2
      go_wp2_with fail
      refine (hPx _).mono ?_; rintro e w10 ⟨v10, own10, hb10, rfl⟩
      replace hown1 := hown1.keep hb10
      replace own10 := own10.mono hbw9.size
      have hbw10 := nx hbw9 hb10
      clear hbw9 hb10 hPx
      go_wp2_with fail
      go_roundw
      case rel => exact ⟨x, _, by rw [HXS.out], hx8, hown1, own10, HSS.out, HX.out, hbw10⟩
      case measure => rw [hlx.out, hlu.out]; exact HL2.out.1
end Go.Proofs.Ytkoebmdocenlkaa
