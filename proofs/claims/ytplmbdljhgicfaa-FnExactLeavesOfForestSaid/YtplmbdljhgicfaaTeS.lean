/- Walks: spec.wdForest, wdShort, wdComb. -/
import Derived.Test.YtplmbdljhgicfaaSrc
import Derived.Test.YtplmbdljhgicfaaTeP
import Derived.Test.YtplmbdljhgicfaaSpecTr
import Derived.Test.YtplmbdljhgicfaaForm
import Derived.Test.YtplmbdljhgicfaaParseI
import Derived.Test.YtplmbdljhgicfaaIn0
import Derived.IntWalk
namespace Go.Proofs.Ytplmbdljhgicfaa
open Go.RowKit

theorem comb_all (s : List Tr) : (combT s).carets = sumT s + s.length := by
  induction s with
  | nil => rfl
  | cons t s ih => rw [combT, sumT_cons, List.length_cons]; simp only [Tr.carets]; omega
theorem sumT_drop (s : List Tr) (k : Nat) : sumT (s.drop k) ≤ sumT s := by
  have := sumT_app (s.take k) (s.drop k)
  rw [List.take_append_drop] at this; omega
def strs (s : List Tr) : List ByteArray := s.map Tr.str
theorem strs_length (s : List Tr) : (strs s).length = s.length := by simp [strs]
theorem oneStrs (ys : List ByteArray) : ∀ u ∈ ys.map Value.string, u.oneCell' = true := by
  intro u hu
  obtain ⟨x, _, rfl⟩ := List.mem_map.1 hu
  rfl

set_option maxRecDepth 100000 in
set_option maxHeartbeats 2000000 in
theorem wdComb_any (v : Value) (b1 : Nat) (ts : List Tr) (w : World) (hv : CellsS b1 w v (strs ts)) (hs : sumT ts + ts.length ≤ 1000) :
    Calls Try.prog 98 #[v] w (Gives (.string (combT ts).str) w) := by
  obtain ⟨oa, cap, rfl, hcl, hcm, hcc⟩ := hv.form0
  rw [strs_length] at *
  unfold maxLen at hcm
  clear hv
  have HC := Lib.hid hcc
  have HSUM := Lib.hid hs
  have hl : ts.length ≤ 1000 := by omega
  clear hcc hs
  go_enter Try.func98, Try.ntmps98
  go_wp2_with fail
  go_loop [3, 4] (fun t i => ∃ k : Nat, i = .int .i64 ((k : Int) - 1) ∧ k ≤ ts.length ∧ t = .string (combT (ts.drop k)).str) (fun _ i => (intOf i + 1).toNat)
  case atStart => exact ⟨ts.length, rfl, Nat.le_refl _, by rw [List.drop_length]; rfl⟩
  case round =>
    obtain ⟨k, rfl, hk, rfl⟩ := hrel
    cases k with
    | zero =>
      rw [show ((0 : Nat) : Int) - 1 = -1 from rfl]
      go_wp2_with fail
      go_ret
      exact ⟨rfl, Below.refl _ _⟩
    | succ k =>
      rw [show ((k + 1 : Nat) : Int) - 1 = (k : Int) by omega]
      have hlt' : (k : Int) < (ts.length : Int) := by omega
      obtain ⟨g, rfl, _, _, c1⟩ := HC.out k (by omega)
      obtain ⟨t, ht⟩ : ∃ t, ts[k]? = some t := ⟨_, List.getElem?_eq_getElem (by omega)⟩
      rw [show (strs ts).getD k ⟨#[]⟩ = t.str by simp [strs, List.getD_eq_getElem?_getD, ht]] at c1
      have hdrop : ts.drop k = t :: ts.drop (k + 1) := by
        obtain ⟨hk', rfl⟩ := List.getElem?_eq_some_iff.1 ht
        exact List.drop_eq_getElem_cons hk'
      have hcb : (combT (ts.drop k)).carets ≤ 1000 := by
        have h1 := comb_all (ts.drop k)
        have h2 := sumT_drop ts k
        have h3 := HSUM.out
        rw [h1, List.length_drop]; omega
      rw [hdrop] at hcb
      have hO := fun w => trOf_any t (combT (ts.drop (k + 1))) w (by simp only [combT, Tr.carets] at hcb; omega)
      have HD : Hid (combT (ts.drop k) = .nd t (combT (ts.drop (k + 1)))) := by show _ = _; rw [hdrop]; rfl
      clear ht hdrop hcb
      go_wp2_with fail
      refine (hO _).mono ?_; rintro e w1 ⟨rfl, rfl⟩
      go_wp2_with fail
      go_round
      case rel => exact ⟨k, by go_num, by omega, by rw [HD.out]⟩
      case measure => first | (simp [intOf]; done) | (simp [intOf]; omega)

set_option maxRecDepth 100000 in
set_option maxHeartbeats 2000000 in
theorem wdShort_any (b1 g cap : Nat) (ts : List Tr) (w : World) (hv : CellsS b1 w (.slice (some ⟨g, 0, none⟩) ts.length cap) (strs ts)) (hl : ts.length ≤ 1000) :
    Calls Try.prog 86 #[.slice (some ⟨g, 0, none⟩) ts.length cap] w (GivesTexts (strs (stripT ts)) w) := by
  obtain ⟨i0, hi, hz0, hz1, hz2⟩ := info_parts info_str
  have HV := Lib.hid hv
  obtain ⟨oa, cap', he, hcl, hcm, hcc⟩ := hv.form0
  injection he with he1 he2 he3
  subst he1 he3
  rw [strs_length] at hcl hcc
  clear he2
  unfold maxLen at hcm
  clear hv
  have HC := Lib.hid hcc
  clear hcc
  have hown0 := ownsRow_empty w 9
  go_enter Try.func86, Try.ntmps86
  go_wp2_with fail
  go_loop [3] (fun i => ∃ k : Nat, i = .int .i64 k ∧ k ≤ ts.length ∧ Hid (stripT ts = stripT (ts.take k))) (fun i => (intOf i).toNat)
  case atStart => exact ⟨ts.length, rfl, Nat.le_refl _, by show _ = _; rw [List.take_length]⟩
  case round =>
    obtain ⟨k, rfl, hk, he⟩ := hrel
    have hsrc := (src_cells HV.out k (by rw [strs_length]; exact hk) cap).keep (nxAlloc (Below.refl w.heap.size w) (.cells #[] 9 (0, 0)))
    have hyl : (((strs ts).take k).map Value.string).length = k := by simp [strs_length]; omega
    have HS := Lib.hid hsrc
    have HY := Lib.hid hyl
    have hone := oneStrs ((strs ts).take k)
    have hb0 := nxAlloc (Below.refl w.heap.size w) (.cells #[] 9 (0, 0))
    have hkb : k ≤ cap := by omega
    clear hsrc
    cases k with
    | zero =>
      have HX : Hid (strs (stripT ts) = (strs ts).take 0) := by show _ = _; rw [he.out]; rfl
      clear he
      go_wp2_with (at_builtin; refine wpList_appSrc rfl (.tmp 18) (.tmp 21) 22 rfl w.heap.size 9 i0 (.string ⟨#[]⟩) 16 Try.underlying22 hi hz0 hz1 hz2 rfl _ 0 _ rfl hown0 _ _ rfl HS.out hone (by unfold maxLen; omega) (by omega) (by simp) ?_; intro w1v w1 w1o w1b w1n)
      obtain ⟨g9, cap9, rfl, _⟩ := row_shape w1o (fun h => by have := w1n h; cases this)
      have hz9 : (strs (stripT ts)).length = 0 + ((List.take 0 (strs ts)).map Value.string).length := by rw [HX.out]; simp
      have hfin : GivesTexts (strs (stripT ts)) w (.returned (.slice (some ⟨g9, 0, none⟩) (0 + ((List.take 0 (strs ts)).map Value.string).length) cap9)) w1 := ⟨g9, cap9, by unfold OwnS; rw [hz9, HX.out]; simpa using w1o, hb0.trans w1b, by rw [hz9]⟩
      have HF := Lib.hid hfin
      clear hfin w1o w1b w1n hz9 HX
      go_wp2_with fail
      go_ret
      exact HF.out
    | succ k =>
      obtain ⟨t, ht⟩ : ∃ t, ts[k]? = some t := ⟨_, List.getElem?_eq_getElem (by omega)⟩
      obtain ⟨g2, hg2, _, _, c1⟩ := HC.out k (by omega)
      injection hg2 with hg2
      injection hg2 with hg2
      subst hg2
      rw [show (strs ts).getD k ⟨#[]⟩ = t.str by simp [strs, List.getD_eq_getElem?_getD, ht]] at c1
      have hT := fun w => trLeaf_any t w
      have hd1 : (0 : Int) ≤ (k : Int) := by omega
      cases hl : t.isLf with
      | true =>
        have HN : Hid (stripT ts = stripT (ts.take k)) := by show _ = _; rw [he.out]; exact stripT_take ht hl
        rw [hl] at hT
        clear he ht hl
        go_wp2_with fail
        refine (hT _).mono ?_; rintro e w9 ⟨rfl, rfl⟩
        go_wp2_with fail
        go_round
        case rel => exact ⟨k, by go_num, by omega, HN⟩
        case measure => first | (simp [intOf]; done) | (simp [intOf]; omega)
      | false =>
        have HX : Hid (strs (stripT ts) = (strs ts).take (k + 1)) := by show _ = _; rw [he.out, stripT_stop ht hl]; simp [strs]
        rw [hl] at hT
        clear he ht hl
        go_wp2_with fail
        refine (hT _).mono ?_; rintro e w9 ⟨rfl, rfl⟩
        go_wp2_with (at_builtin; refine wpList_appSrc rfl (.tmp 18) (.tmp 21) 22 rfl w.heap.size 9 i0 (.string ⟨#[]⟩) 16 Try.underlying22 hi hz0 hz1 hz2 rfl _ 0 _ rfl hown0 _ _ rfl HS.out hone (by unfold maxLen; omega) (by omega) (by simp) ?_; intro w1v w1 w1o w1b w1n)
        obtain ⟨g9, cap9, rfl, _⟩ := row_shape w1o (fun h => by have := w1n h; cases this)
        have hz9 : (strs (stripT ts)).length = 0 + ((List.take (k + 1) (strs ts)).map Value.string).length := by rw [HX.out]; simp
        have hfin : GivesTexts (strs (stripT ts)) w (.returned (.slice (some ⟨g9, 0, none⟩) (0 + ((List.take (k + 1) (strs ts)).map Value.string).length) cap9)) w1 := ⟨g9, cap9, by unfold OwnS; rw [hz9, HX.out]; simpa using w1o, hb0.trans w1b, by rw [hz9]⟩
        have HF := Lib.hid hfin
        clear hfin w1o w1b w1n hz9 HX
        go_wp2_with fail
        go_ret
        exact HF.out
end Go.Proofs.Ytplmbdljhgicfaa
