/- Walks: the inverses of a word, backwards. -/
import Derived.RangeFuncNested
import Derived.Test.YtgmjchpcpocpoaaBack
namespace Go.Proofs.Ytgmjchpcpocpoaa
open Go.RowKit Go.Shelf

attribute [local go_sem] Oper.semAt_some

set_option maxRecDepth 100000 in
set_option maxHeartbeats 2000000 in
theorem inverseLetters_in (F : Fence) (n : Nat) (h3 : F.fn 42) (h5 : F.fn 63) (h7 : F.fn 76) (hro : F.round = none) (hn : 3 ≤ n) (oa : Option Addr) (cap : Nat) (L : List Int) (hz : ∀ x ∈ L, -100 ≤ x ∧ x ≤ 100) (hL : L.length ≤ 1000) (w : World)
    (hI : ∀ i, i < L.length → ∃ g, oa = some ⟨g, 0, none⟩ ∧ g < w.heap.size ∧ w.cell? ⟨g, i, none⟩ = some (.int .i64 (L[i]?.getD 0))) :
    CallsIn F n Try.prog 42 #[.slice oa L.length cap] w fun e W' => ∃ v, e = .returned v ∧ OwnI w.heap.size W' v (L.reverse.map fun x => -x) ∧ Below w.heap.size w W' := by
  have h1 : 1 ≤ n := by omega
  obtain ⟨i0, hi, hz0, hz1, hz2⟩ := info_parts info_int
  refine callsIn_of_wp_marks Try.func42 rfl h3 ?_ hro
  simp only [Try.ntmps42, List.size_toArray, List.length_cons, List.length_nil, Nat.reduceAdd, Nat.reduceSub, Array.replicate_succ, Array.replicate_zero, List.push_toArray, List.append_toArray, List.nil_append, List.cons_append]
  gi_wp2_with (gi_at_call 63; refine (back_in F (n - 1) h5 hro _ _ _ _).mono ?_; rintro e w' ⟨rfl, rfl⟩)
  have bO := Boxed.new w 22 (.slice none 0 0)
  have bN := Boxed.new (w.alloc (.cells #[.slice none 0 0] 22)) 22 (.slice oa L.length cap)
  rw [World.size_alloc] at bN
  have hB0 : Below w.heap.size w ((w.alloc (.cells #[.slice none 0 0] 22)).alloc (.cells #[.slice oa L.length cap] 22)) := ((Below.refl _ w).alloc (Nat.le_refl _) _).alloc (by simp) _
  refine wpIn_rangeFunc_ownG hro h1 (gf := 76) (lb := #[.pointer (some ⟨w.heap.size + 1, 0, none⟩)]) rfl h7 (enters_of Try.func76 (by kernel_rfl) rfl)
    (back_stops F (n - 1) h7 hro (by omega) (w.heap.size + 1) w.heap.size cap oa L hz hL _ (by simp; omega) bN (fun i hi => by
      obtain ⟨g, e, hg, c⟩ := hI i hi
      exact ⟨g, e, hg, (hB0.cell (p := ⟨g, i, none⟩) hg).trans c⟩)) KpB.trans (KpB.put (by simp; omega)) (Below.refl _ _) (fun _ => rfl)
    (fun pre W => (∃ v, Boxed W w.heap.size 22 v ∧ W.ownsRow w.heap.size 3 1 v pre.length ((negs pre).map (Value.int .i64)) ∧ True) ∧ Below w.heap.size w W)
    (fun _ _ _ => False)
    (OwnFrom.and (Own.from (holdsRow_own w.heap.size w.heap.size 22 3 1 (fun pre => pre.length) (fun pre => (negs pre).map (Value.int .i64)) (fun pre v => True)) _) (ownFrom_below (Nat.le_refl _) (by simp; omega)))
    (fun _ _ _ _ _ hs _ _ => hs)
    ⟨⟨_, bO.alloc _, World.ownsRow_nil _ _ _ _, trivial⟩, hB0⟩
    (fun x => { tmps := #[.slice oa L.length cap, undef, .slice none 0 0, .pointer (some ⟨w.heap.size, 0, none⟩), undef, .int .i64 x.1.2, .slice oa L.length cap, .func (.func 76) #[] #[.pointer (some ⟨w.heap.size + 1, 0, none⟩)], .int .i64 (x.1.1 : Int), .int .i64 x.1.2, undef, undef, undef, undef, undef, undef], defers := [] }) ?assign ?body ?done ?stop
  case assign =>
    intro l x W K hK
    gi_wp2
    exact hK
  case body =>
    rintro l pre x W ⟨⟨v, hv, hrow, _⟩, hB⟩ hlt
    have hc := hv.cell
    obtain ⟨hx1, hx2⟩ := x.2
    have hpl := negs_length pre
    have hbd : -100 ≤ -x.1.2 ∧ -x.1.2 ≤ 100 := by omega
    gi_wp2_with (gi_at_builtin; refine wpListIn_append_own _ rfl _ _ 22 rfl w.heap.size 3 i0 (.int .i64 0) 1 8 Try.underlying22 hi hz0 hz1 hz2 rfl (by decide) _ _ _ rfl (hrow.alloc _) ⟨W.heap.size, 0, none⟩ 1 1 [.int .i64 (-x.1.2)] rfl rfl (cell_one_new _ _ _) (by simp [Value.oneCell']) (by unfold maxLen; omega) (by omega) (by have := hB.size; simp; omega) ?_; intro v' w1 hown' hgrow _; obtain ⟨g', cap', rfl⟩ := ownsRow_succ hown'; obtain ⟨hv1, hv2, hr2, hk2, hb2⟩ := hv.appended (by decide) hrow hB.size (Nat.le_refl _) hown' hgrow; have hc1 := hv1.cell; have hf1 := hv1.frozen)
    refine ⟨hk2.from _, ⟨hb2, fun u hu => ?_⟩, ⟨_, hv2, ?_, trivial⟩, hB.trans hb2⟩
    · exact ((hu.alloc _).kept hgrow (hu.not_row (by decide) hrow)).other (by omega) _
    · rw [negs_snoc]
      simpa using hr2
  case done =>
    rintro D ys W hD rfl ⟨⟨v, hv, hrow, _⟩, hB⟩ hK
    have hc := hv.cell
    gi_wp2
    refine ⟨by simp, .inl ⟨_, _, rfl, run_takeDeferred hK, ?_⟩⟩
    have hr := ownsRow_putObj hrow (.deferred none) hK rfl
    rw [negs_all, bkTo_length] at hr
    exact ⟨_, results_tmp rfl _ _ _, v, rfl, by unfold OwnI; simp only [List.length_map, List.length_reverse]; exact hr, hB.trans (belowK_b (w := w) (Nat.le_refl _) W D _ _ (by simp at hD; omega) hK rfl rfl)⟩
  case stop =>
    rintro D c pre W _ _ h _
    exact h.elim

def bkW (L : List Int) : List Int := L.reverse.map fun x => -x
theorem bkW_length (L : List Int) : (bkW L).length = L.length := by simp [bkW]
theorem inverseLetters_any (v : Value) (b1 : Nat) (L : List Int) (w : World) (hv : CellsI b1 w v L) (hz : ∀ x ∈ L, -100 ≤ x ∧ x ≤ 100) (hL : L.length ≤ 1000) :
    Calls Try.prog 42 #[v] w (GivesInts (bkW L) w) := by
  obtain ⟨oa, cap, rfl, hcl, hcm, hcc⟩ := hv.form
  refine callsIn_wide.1 ((inverseLetters_in Fence.wide 3 trivial trivial trivial rfl (Nat.le_refl _) oa cap L hz hL w (fun i hi => ?_)).mono ?_)
  · obtain ⟨g, e, _, hg, c⟩ := hcc i hi
    exact ⟨g, e, hg, by rw [← List.getD_eq_getElem?_getD]; exact c⟩
  · rintro e w' ⟨u, he, ho, hb⟩
    exact ⟨u, ho, hb, he⟩

theorem bkW_drop {L : List Int} {m : Nat} (h : m < L.length) : bkW (L.drop m) = bkW (L.drop (m + 1)) ++ [-(L.getD m 0)] := by
  unfold bkW
  rw [List.drop_eq_getElem_cons h, List.reverse_cons, List.map_append]
  congr 1
  simp [h]

set_option maxRecDepth 100000 in
set_option maxHeartbeats 2000000 in
theorem wdInverse_any (v : Value) (b1 : Nat) (L : List Int) (w : World) (hv : CellsI b1 w v L) (hz : ∀ x ∈ L, -100 ≤ x ∧ x ≤ 100) (hL : L.length ≤ 1000) :
    Calls Try.prog 41 #[v] w (GivesInts (bkW L) w) := by
  obtain ⟨i0, hi, hz0, hz1, hz2⟩ := info_parts info_int
  obtain ⟨oa, cap, rfl, hcl, hcm, hcc⟩ := hv.form
  unfold maxLen at hcm
  clear hv
  have HC := Lib.hid hcc
  have HZ := Lib.hid hz
  clear hcc hz
  go_enter Try.func41, Try.ntmps41
  go_wp2_with fail
  go_loopw [3, 4] (fun u i wr => ∃ (m : Nat) (xs : List Int), i = .int .i64 ((m : Int) - 1) ∧ m ≤ L.length ∧ xs.length = L.length - m ∧ OwnI w.heap.size wr u xs ∧ Below w.heap.size w wr ∧ Hid (xs = bkW (L.drop m))) (fun _ i _ => (intOf i + 1).toNat)
  case atStart => exact ⟨L.length, [], rfl, Nat.le_refl _, by simp, OwnI.nil _ _, Below.refl _ _, by show [] = _; rw [List.drop_length]; rfl⟩
  case round =>
    obtain ⟨m, xs, rfl, hm, hxl, hown, hbw, he⟩ := hrel
    have HX := Lib.hid hxl
    cases m with
    | zero =>
      have e0 : ((0 : Nat) : Int) - 1 = -1 := by omega
      rw [e0]
      have he' := he.out
      rw [List.drop_zero] at he'
      have HE := Lib.hid he'
      clear he he' hxl
      go_wp2_with fail
      go_ret
      exact ⟨_, by rw [← HE.out]; exact hown, hbw, rfl⟩
    | succ m =>
      have e1 : ((m + 1 : Nat) : Int) - 1 = (m : Int) := by omega
      rw [e1]
      unfold OwnI at hown
      have hlt : m < L.length := by omega
      have hlt' : (m : Int) < (L.length : Int) := by omega
      obtain ⟨g, rfl, _, hgl, c1⟩ := HC.out m hlt
      replace c1 := (hbw.cell (p := ⟨g, m, none⟩) hgl).trans c1
      have hxm : L.getD m 0 ∈ L := by rw [List.getD_eq_getElem?_getD, List.getElem?_eq_getElem hlt]; exact List.getElem_mem _
      obtain ⟨hx1, hx2⟩ := HZ.out _ hxm
      have hstep := bkW_drop hlt
      rw [← he.out] at hstep
      generalize L.getD m 0 = x at c1 hx1 hx2 hstep
      have HS := Lib.hid hstep
      have hbd : -100 ≤ -x ∧ -x ≤ 100 := by omega
      clear hxm he hgl hstep
      go_wp2_with (at_builtin; refine wpList_append_own _ rfl _ _ 22 rfl w.heap.size 3 i0 (.int .i64 0) 1 8 Try.underlying22 hi hz0 hz1 hz2 rfl (by decide) _ _ _ rfl (hown.alloc _) ⟨wr.heap.size, 0, none⟩ 1 1 [.int .i64 (-x)] rfl rfl (new1 _ _ _) (one1 _) (by unfold maxLen; omega) (by omega) (size_al hbw _) ?_; intro v' w1 hown' hgrow hnn)
      have hbw' := below_app hbw hown (Nat.le_refl _) hgrow
      have hown1 : OwnI w.heap.size w1 v' (xs ++ [-x]) := OwnI.snoc hown'
      clear hown hown' hgrow hbw hnn
      go_wp2_with fail
      go_roundw
      case rel => exact ⟨m, _, by go_num, by omega, by have := HX.out; simp; omega, hown1, hbw', HS.out.symm⟩
      case measure => simp [intOf]

end Go.Proofs.Ytgmjchpcpocpoaa
