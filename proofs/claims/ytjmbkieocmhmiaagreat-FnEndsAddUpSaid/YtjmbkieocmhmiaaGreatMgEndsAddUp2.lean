/- Texts that the claim needs, part 3. -/
import Derived.Test.YtjmbkieocmhmiaaGreatMgEndsAddUp1
import Derived.Deep.RegionHeld3
import Derived.WalkKit
/-! Dw13 -/
namespace Go.Proofs.YtjmbkieocmhmiaaGreat
open Go.RowKit

set_option maxRecDepth 100000 in
set_option maxHeartbeats 2000000 in
theorem drawProductPair_any (c : Bts) (w : World) (h : InB w c) : Calls Tryz.prog 6 #[.slice c.a c.n c.cap] w (GivesQQ 100 w) := by
  have H := Lib.hid (start3 h)
  have hra0 := Lib.hid (heap_keep (allocB ((w.alloc (.cells #[.string ⟨#[]⟩, .string ⟨#[]⟩] 25 (0, 0))).alloc (.cells #[.string ⟨#[]⟩, .string ⟨#[]⟩] 25 (0, 0))) (.cells #[.slice c.a c.n c.cap, .int .i64 0, .int .u64 0] 58 (0, 0))) (heap_keep (allocB (w.alloc (.cells #[.string ⟨#[]⟩, .string ⟨#[]⟩] 25 (0, 0))) (.cells #[.string ⟨#[]⟩, .string ⟨#[]⟩] 25 (0, 0))) (heap_alloc_at w (.cells #[.string ⟨#[]⟩, .string ⟨#[]⟩] 25 (0, 0)))))
  have hrb0 := Lib.hid (show (((w.alloc (.cells #[.string ⟨#[]⟩, .string ⟨#[]⟩] 25 (0, 0))).alloc (.cells #[.string ⟨#[]⟩, .string ⟨#[]⟩] 25 (0, 0))).alloc (.cells #[.slice c.a c.n c.cap, .int .i64 0, .int .u64 0] 58 (0, 0))).heap[w.heap.size + 1]? = some (.cells #[.string ⟨#[]⟩, .string ⟨#[]⟩] 25 (0, 0)) from by have := heap_keep (allocB ((w.alloc (.cells #[.string ⟨#[]⟩, .string ⟨#[]⟩] 25 (0, 0))).alloc (.cells #[.string ⟨#[]⟩, .string ⟨#[]⟩] 25 (0, 0))) (.cells #[.slice c.a c.n c.cap, .int .i64 0, .int .u64 0] 58 (0, 0))) (heap_alloc_at (w.alloc (.cells #[.string ⟨#[]⟩, .string ⟨#[]⟩] 25 (0, 0))) (.cells #[.string ⟨#[]⟩, .string ⟨#[]⟩] 25 (0, 0))); rwa [show (w.alloc (.cells #[.string ⟨#[]⟩, .string ⟨#[]⟩] 25 (0, 0))).heap.size = w.heap.size + 1 by simp] at this)
  have HG0 := Lib.hid (grown_refl (((w.alloc (.cells #[.string ⟨#[]⟩, .string ⟨#[]⟩] 25 (0, 0))).alloc (.cells #[.string ⟨#[]⟩, .string ⟨#[]⟩] 25 (0, 0))).alloc (.cells #[.slice c.a c.n c.cap, .int .i64 0, .int .u64 0] 58 (0, 0))) (some (w.heap.size + 2)))
  clear h
  go_enter Tryz.func6, Tryz.ntmps6
  go_wp2_with fail
  refine (pairD 4 _ c _ _ H.out (by omega) (by omega)).mono ?_; rintro e w1 ⟨s, t, hs, ht, rfl, hT, hg⟩
  have HT := Lib.hid hT
  have HG := Lib.hid (grown_trans HG0.out hg)
  have HA := Lib.hid (grown_block hg hra0.out (by omega))
  have HB := Lib.hid (grown_block hg hrb0.out (by omega))
  clear hT hg
  go_wp2_with fail
  refine (pairD 4 _ c _ _ HT.out (by omega) (by omega)).mono ?_; rintro e w2 ⟨s2, t2, hs2, ht2, rfl, hT, hg⟩
  have HG2 := Lib.hid (grown_trans HG.out hg)
  have hra := grown_block hg HA.out (by omega)
  have hrb := grown_block hg HB.out (by omega)
  clear hT hg
  obtain ⟨ra1, ra2, ra3⟩ := two_facts hra
  obtain ⟨ra4, ra5⟩ := two_frozen hra
  obtain ⟨rb1, rb2, rb3⟩ := two_facts hrb
  obtain ⟨rb4, rb5⟩ := two_frozen hrb
  go_wp2_with fail
  have hsa := set_two (.string s) (.string t) hra
  have hsa2 : ((((w2.setCell ⟨w.heap.size, 0, none⟩ (.string s)).setCell ⟨w.heap.size, 1, none⟩ (.string t)).setCell ⟨w.heap.size + 1, 0, none⟩ (.string s2)).setCell ⟨w.heap.size + 1, 1, none⟩ (.string t2)).heap[w.heap.size]? = _ := (heap_setCell_other _ ⟨w.heap.size + 1, 1, none⟩ w.heap.size (.string t2) (show w.heap.size ≠ w.heap.size + 1 by omega)).trans ((heap_setCell_other _ ⟨w.heap.size + 1, 0, none⟩ w.heap.size (.string s2) (show w.heap.size ≠ w.heap.size + 1 by omega)).trans hsa)
  have hsb0 : ((w2.setCell ⟨w.heap.size, 0, none⟩ (.string s)).setCell ⟨w.heap.size, 1, none⟩ (.string t)).heap[w.heap.size + 1]? = _ := (heap_setCell_other _ ⟨w.heap.size, 1, none⟩ (w.heap.size + 1) (.string t) (show w.heap.size + 1 ≠ w.heap.size by omega)).trans ((heap_setCell_other _ ⟨w.heap.size, 0, none⟩ (w.heap.size + 1) (.string s) (show w.heap.size + 1 ≠ w.heap.size by omega)).trans hrb)
  have hsb := set_two (.string s2) (.string t2) hsb0
  obtain ⟨q1, q2⟩ := two_cells hsa2
  obtain ⟨q3, q4⟩ := two_cells hsb
  refine bodyPost_ret (v := .tuple #[.agg #[.string s, .string t], .agg #[.string s2, .string t2]]) (by simp [q1, q2, q3, q4, results, Tryz.results6, go_sem]) rfl ⟨s, t, s2, t2, by omega, by omega, by omega, by omega, rfl, ?_⟩
  exact ((((below3 HG2.out).setCell (Nat.le_refl _) _).setCell (Nat.le_refl _) _).setCell (show w.heap.size ≤ w.heap.size + 1 by omega) _).setCell (show w.heap.size ≤ w.heap.size + 1 by omega) _

set_option maxRecDepth 100000 in
set_option maxHeartbeats 2000000 in
theorem drawCommutatorPair_any (c : Bts) (w : World) (h : InB w c) : Calls Tryz.prog 17 #[.slice c.a c.n c.cap] w (GivesQQ 100 w) := by
  have H := Lib.hid (start3 h)
  have hra0 := Lib.hid (heap_keep (allocB ((w.alloc (.cells #[.string ⟨#[]⟩, .string ⟨#[]⟩] 25 (0, 0))).alloc (.cells #[.string ⟨#[]⟩, .string ⟨#[]⟩] 25 (0, 0))) (.cells #[.slice c.a c.n c.cap, .int .i64 0, .int .u64 0] 58 (0, 0))) (heap_keep (allocB (w.alloc (.cells #[.string ⟨#[]⟩, .string ⟨#[]⟩] 25 (0, 0))) (.cells #[.string ⟨#[]⟩, .string ⟨#[]⟩] 25 (0, 0))) (heap_alloc_at w (.cells #[.string ⟨#[]⟩, .string ⟨#[]⟩] 25 (0, 0)))))
  have hrb0 := Lib.hid (show (((w.alloc (.cells #[.string ⟨#[]⟩, .string ⟨#[]⟩] 25 (0, 0))).alloc (.cells #[.string ⟨#[]⟩, .string ⟨#[]⟩] 25 (0, 0))).alloc (.cells #[.slice c.a c.n c.cap, .int .i64 0, .int .u64 0] 58 (0, 0))).heap[w.heap.size + 1]? = some (.cells #[.string ⟨#[]⟩, .string ⟨#[]⟩] 25 (0, 0)) from by have := heap_keep (allocB ((w.alloc (.cells #[.string ⟨#[]⟩, .string ⟨#[]⟩] 25 (0, 0))).alloc (.cells #[.string ⟨#[]⟩, .string ⟨#[]⟩] 25 (0, 0))) (.cells #[.slice c.a c.n c.cap, .int .i64 0, .int .u64 0] 58 (0, 0))) (heap_alloc_at (w.alloc (.cells #[.string ⟨#[]⟩, .string ⟨#[]⟩] 25 (0, 0))) (.cells #[.string ⟨#[]⟩, .string ⟨#[]⟩] 25 (0, 0))); rwa [show (w.alloc (.cells #[.string ⟨#[]⟩, .string ⟨#[]⟩] 25 (0, 0))).heap.size = w.heap.size + 1 by simp] at this)
  have HG0 := Lib.hid (grown_refl (((w.alloc (.cells #[.string ⟨#[]⟩, .string ⟨#[]⟩] 25 (0, 0))).alloc (.cells #[.string ⟨#[]⟩, .string ⟨#[]⟩] 25 (0, 0))).alloc (.cells #[.slice c.a c.n c.cap, .int .i64 0, .int .u64 0] 58 (0, 0))) (some (w.heap.size + 2)))
  clear h
  go_enter Tryz.func17, Tryz.ntmps17
  go_wp2_with fail
  refine (pairD 3 _ c _ _ H.out (by omega) (by omega)).mono ?_; rintro e w1 ⟨s, t, hs, ht, rfl, hT, hg⟩
  have HT := Lib.hid hT
  have HG := Lib.hid (grown_trans HG0.out hg)
  have HA := Lib.hid (grown_block hg hra0.out (by omega))
  have HB := Lib.hid (grown_block hg hrb0.out (by omega))
  clear hT hg
  go_wp2_with fail
  refine (pairD 3 _ c _ _ HT.out (by omega) (by omega)).mono ?_; rintro e w2 ⟨s2, t2, hs2, ht2, rfl, hT, hg⟩
  have HG2 := Lib.hid (grown_trans HG.out hg)
  have hra := grown_block hg HA.out (by omega)
  have hrb := grown_block hg HB.out (by omega)
  clear hT hg
  obtain ⟨ra1, ra2, ra3⟩ := two_facts hra
  obtain ⟨ra4, ra5⟩ := two_frozen hra
  obtain ⟨rb1, rb2, rb3⟩ := two_facts hrb
  obtain ⟨rb4, rb5⟩ := two_frozen hrb
  go_wp2_with fail
  have hsa := set_two (.string s) (.string t) hra
  have hsa2 : ((((w2.setCell ⟨w.heap.size, 0, none⟩ (.string s)).setCell ⟨w.heap.size, 1, none⟩ (.string t)).setCell ⟨w.heap.size + 1, 0, none⟩ (.string s2)).setCell ⟨w.heap.size + 1, 1, none⟩ (.string t2)).heap[w.heap.size]? = _ := (heap_setCell_other _ ⟨w.heap.size + 1, 1, none⟩ w.heap.size (.string t2) (show w.heap.size ≠ w.heap.size + 1 by omega)).trans ((heap_setCell_other _ ⟨w.heap.size + 1, 0, none⟩ w.heap.size (.string s2) (show w.heap.size ≠ w.heap.size + 1 by omega)).trans hsa)
  have hsb0 : ((w2.setCell ⟨w.heap.size, 0, none⟩ (.string s)).setCell ⟨w.heap.size, 1, none⟩ (.string t)).heap[w.heap.size + 1]? = _ := (heap_setCell_other _ ⟨w.heap.size, 1, none⟩ (w.heap.size + 1) (.string t) (show w.heap.size + 1 ≠ w.heap.size by omega)).trans ((heap_setCell_other _ ⟨w.heap.size, 0, none⟩ (w.heap.size + 1) (.string s) (show w.heap.size + 1 ≠ w.heap.size by omega)).trans hrb)
  have hsb := set_two (.string s2) (.string t2) hsb0
  obtain ⟨q1, q2⟩ := two_cells hsa2
  obtain ⟨q3, q4⟩ := two_cells hsb
  refine bodyPost_ret (v := .tuple #[.agg #[.string s, .string t], .agg #[.string s2, .string t2]]) (by simp [q1, q2, q3, q4, results, Tryz.results17, go_sem]) rfl ⟨s, t, s2, t2, by omega, by omega, by omega, by omega, rfl, ?_⟩
  exact ((((below3 HG2.out).setCell (Nat.le_refl _) _).setCell (Nat.le_refl _) _).setCell (show w.heap.size ≤ w.heap.size + 1 by omega) _).setCell (show w.heap.size ≤ w.heap.size + 1 by omega) _

set_option maxRecDepth 100000 in
set_option maxHeartbeats 2000000 in
theorem drawPowerPair_any (c : Bts) (w : World) (h : InB w c) : Calls Tryz.prog 13 #[.slice c.a c.n c.cap] w (GivesQI 100 w) := by
  have H := Lib.hid (start2 h)
  have hr0 := Lib.hid (heap_keep (allocB (w.alloc (.cells #[.string ⟨#[]⟩, .string ⟨#[]⟩] 25 (0, 0))) (.cells #[.slice c.a c.n c.cap, .int .i64 0, .int .u64 0] 58 (0, 0))) (heap_alloc_at w (.cells #[.string ⟨#[]⟩, .string ⟨#[]⟩] 25 (0, 0))))
  have HG0 := Lib.hid (grown_refl ((w.alloc (.cells #[.string ⟨#[]⟩, .string ⟨#[]⟩] 25 (0, 0))).alloc (.cells #[.slice c.a c.n c.cap, .int .i64 0, .int .u64 0] 58 (0, 0))) (some (w.heap.size + 1)))
  clear h
  go_enter Tryz.func13, Tryz.ntmps13
  go_wp2_with fail
  refine (drawOne_any 10 _ c 0 _ H.out (by omega) (by omega) (by omega)).mono ?_; rintro e w1 ⟨x, rfl, hT, hg⟩
  have HT := Lib.hid hT
  have HG := Lib.hid (grown_trans HG0.out hg)
  have HR := Lib.hid (grown_block hg hr0.out (by omega))
  clear hT hg
  cases x with
  | true =>
    go_wp2_with fail
    refine (pairD 4 _ c _ _ HT.out (by omega) (by omega)).mono ?_; rintro e w2 ⟨s, t, hs, ht, rfl, hT, hg⟩
    have HT2 := Lib.hid hT
    have HG2 := Lib.hid (grown_trans HG.out hg)
    have HR2 := Lib.hid (grown_block hg HR.out (by omega))
    have hlt2 := hT.lt
    clear hT hg
    go_wp2_with fail
    refine (drawAmong_any [-11, -10, 10, 11] 4 _ 4 _ c _ _ (HT2.out.keep (allocB _ _)) (rowI_alloc _ [-11, -10, 10, 11] _) rfl (by omega) (by omega) (by omega) (by omega)).mono ?_; rintro e w3 ⟨i, hi, rfl, hT, hg⟩
    have hi2 : -11 ≤ i ∧ i ≤ 11 := by
      simp only [List.mem_cons, List.not_mem_nil, or_false] at hi
      omega
    have HG3 := Lib.hid (grown_trans (grown_below HG2.out (allocB _ _)) hg)
    have hr3 := grown_block hg (heap_keep (allocB _ _) HR2.out) (by omega)
    clear hT hg hi
    obtain ⟨hra, hrb, hrc⟩ := two_facts hr3
    obtain ⟨hrf, hrg⟩ := two_frozen hr3
    go_wp2_with fail
    obtain ⟨q1, q2⟩ := two_cells (set_two (.string s) (.string t) hr3)
    refine bodyPost_ret (v := .tuple #[.agg #[.string s, .string t], .int .i64 (i)]) (by simp [q1, q2, results, Tryz.results13, go_sem]) rfl ⟨s, t, i, by omega, by omega, by omega, by omega, rfl, ?_⟩
    exact ((below2 HG3.out).setCell (Nat.le_refl _) _).setCell (Nat.le_refl _) _
  | false =>
    go_wp2_with fail
    refine (pairD 4 _ c _ _ HT.out (by omega) (by omega)).mono ?_; rintro e w2 ⟨s, t, hs, ht, rfl, hT, hg⟩
    have HT2 := Lib.hid hT
    have HG2 := Lib.hid (grown_trans HG.out hg)
    have HR2 := Lib.hid (grown_block hg HR.out (by omega))
    clear hT hg
    go_wp2_with fail
    refine (drawPick_any 9 _ c _ _ HT2.out (by omega) (by omega) (by omega)).mono ?_; rintro e w3 ⟨y, hy, rfl, hT, hg⟩
    have HG3 := Lib.hid (grown_trans HG2.out hg)
    have hr3 := grown_block hg HR2.out (by omega)
    clear hT hg
    obtain ⟨hra, hrb, hrc⟩ := two_facts hr3
    obtain ⟨hrf, hrg⟩ := two_frozen hr3
    go_wp2_with fail
    obtain ⟨q1, q2⟩ := two_cells (set_two (.string s) (.string t) hr3)
    refine bodyPost_ret (v := .tuple #[.agg #[.string s, .string t], .int .i64 ((y : Int) - 4)]) (by simp [q1, q2, results, Tryz.results13, go_sem]) rfl ⟨s, t, (y : Int) - 4, by omega, by omega, by omega, by omega, rfl, ?_⟩
    exact ((below2 HG3.out).setCell (Nat.le_refl _) _).setCell (Nat.le_refl _) _
end Go.Proofs.YtjmbkieocmhmiaaGreat

/-! RedBy -/
namespace Go.Proofs.YtjmbkieocmhmiaaGreat
open Go.RowKit

theorem firstOf_any (n : Int) (w : World) : Calls Tryz.prog 80 #[.int .i64 n] w fun e w' => e = .returned (.int .i64 0) ∧ w = w' := by
  go_enter Tryz.func80, Tryz.ntmps80
  go_wp2
  go_ret
  exact ⟨rfl, rfl⟩

theorem sharedExposed_tr (p : Pr) (w : World) (k1 : p.1.carets ≤ 200) (k2 : p.2.carets ≤ 200) : Calls Tryz.prog 106 #[.agg #[.string p.1.str, .string p.2.str]] w (GivesInts (both p) w) := by
  have := sharedExposed_any p.1.str p.2.str w (by have := p.1.str_size; omega) (by have := p.2.str_size; omega)
  rwa [bothL_str] at this

theorem redBy_first {p : Pr} (hl : 0 < (both p).length) : red p = red (dropP p ((both p).getD 0 0)) := by
  have := redBy_pick (p := p) [] 0 hl rfl
  exact this

set_option maxRecDepth 100000 in
set_option maxHeartbeats 2000000 in
theorem reducedBy_first (p0 : Pr) (w : World) (h1 : p0.1.carets ≤ 200) (h2 : p0.2.carets ≤ 200) :
    Calls Tryz.prog 77 #[.agg #[.string p0.1.str, .string p0.2.str], .func (Fn.func 80) #[] #[]] w (Gives (.agg #[.string (red p0).1.str, .string (red p0).2.str]) w) := by
  go_enter Tryz.func77, Tryz.ntmps77
  go_wp2_with fail
  have hb0 : Below w.heap.size w ((w.alloc (.cells #[.string p0.1.str, .string p0.2.str] 25 (0, 0))).alloc (.cells #[.string ⟨#[]⟩, .string ⟨#[]⟩] 25 (0, 0))) := nxAlloc (nxAlloc (Below.refl _ _) _) _
  have hx1 := heap_keep (nxAlloc (Below.refl _ _) (.cells #[.string ⟨#[]⟩, .string ⟨#[]⟩] 25 (0, 0))) (heap_alloc_at w (.cells #[.string p0.1.str, .string p0.2.str] 25 (0, 0)))
  have hx2 := heap_alloc_at (w.alloc (.cells #[.string p0.1.str, .string p0.2.str] 25 (0, 0))) (.cells #[.string ⟨#[]⟩, .string ⟨#[]⟩] 25 (0, 0))
  generalize (w.alloc (.cells #[.string p0.1.str, .string p0.2.str] 25 (0, 0))).alloc (.cells #[.string ⟨#[]⟩, .string ⟨#[]⟩] 25 (0, 0)) = w0 at *
  have e2 : (w.alloc (.cells #[.string p0.1.str, .string p0.2.str] 25 (0, 0))).heap.size = w.heap.size + 1 := by simp
  rw [e2] at hx2
  clear e2
  have hs0 : w.heap.size + 1 < w0.heap.size := lt_of_block hx2
  go_loopw [5] (fun _ wr => ∃ (p : Pr), wr.heap[w.heap.size]? = some (.cells #[.string p.1.str, .string p.2.str] 25 (0, 0)) ∧ wr.heap[w.heap.size + 1]? = some (.cells #[.string ⟨#[]⟩, .string ⟨#[]⟩] 25 (0, 0)) ∧ Below w.heap.size w wr ∧ w.heap.size + 2 ≤ wr.heap.size ∧ p.1.carets ≤ 200 ∧ p.2.carets ≤ 200 ∧ Hid (red p0 = red p)) (fun _ wr => sizeAt wr w.heap.size)
  case atStart => exact ⟨p0, hx1, hx2, hb0, hs0, h1, h2, rfl⟩
  case round =>
    obtain ⟨p, hy1, hy2, hbw, hsz, hp1, hp2, he⟩ := hrel
    have HS1 := Lib.hid (sizeAt_of hy1)
    obtain ⟨k1, k2⟩ := two_cells hy1
    go_wp2_with fail
    refine (sharedExposed_tr p _ hp1 hp2).mono ?_; rintro e w1 ⟨v5, own, hb1, rfl⟩
    have hz1 := heap_keep hb1 hy1
    have hz2 := heap_keep hb1 hy2
    have hbw1 := nx hbw hb1
    have hsz1 := Nat.le_trans hsz hb1.size
    have hown : OwnI (w.heap.size + 2) w1 v5 (both p) := own.mono hsz
    have hf := hown.cells.form
    clear own hb1 hbw hsz k1 k2 hy1 hy2 hown
    obtain ⟨k1, k2⟩ := two_cells hz1
    obtain ⟨ob, bcap, rfl, hbc, hbm, hbcell⟩ := hf
    unfold maxLen at hbm
    by_cases hl : (both p).length = 0
    · have hnil : both p = [] := List.length_eq_zero_iff.1 hl
      have he' := he.out
      rw [(red_self p).2 hnil] at he'
      have HE := Lib.hid he'
      rw [hl]
      obtain ⟨n1, n2⟩ := two_cells hz2
      obtain ⟨f1, f2⟩ := two_frozen hz2
      clear hl hnil he he' hbcell
      go_wp2_with fail
      obtain ⟨r1, r2⟩ := two_cells (set_two (.string p.1.str) (.string p.2.str) hz2)
      refine bodyPost_ret (v := .agg #[.string p.1.str, .string p.2.str]) (by simp [r1, r2, results, Tryz.results77, go_sem]) rfl ⟨by rw [HE.out], ?_⟩
      exact (hbw1.setCell (by simp) _).setCell (by simp) _
    · -- a step
      have hlp : 0 < (both p).length := by omega
      have hlp' : (((both p).length : Int) == 0) = false := by rw [beq_eq_false_iff_ne]; omega
      have hst := redBy_first hlp
      obtain ⟨m1, m2, hx0, hx9⟩ := both_in p hp1 0 hlp
      obtain ⟨g, rfl, hg0, hg1, c1⟩ := hbcell 0 hlp
      obtain ⟨x, hx⟩ : ∃ x, x = (both p).getD 0 0 := ⟨_, rfl⟩
      rw [← hx] at hst m1 m2 c1 hx0 hx9
      have hstep := Lib.hid hst
      have T1 := fun w => withoutExposed_tr p.1 x w (by omega) m1
      have T2 := fun w => withoutExposed_tr p.2 x w (by omega) m2
      obtain ⟨hd1, hd2⟩ := dropP_carets (p := p) (n := x) (mem_both.2 ⟨m1, m2⟩)
      generalize hL : (both p).length = L at *
      have HL := Lib.hid hL
      have hlq : (0 : Int) < (L : Int) := by omega
      obtain ⟨f1, f2⟩ := two_frozen hz1
      clear hL hx hst m1 m2 hbcell hl
      go_wp2_with fail
      refine (firstOf_any _ _).mono ?_; rintro e w2 ⟨rfl, rfl⟩
      go_wp2_with fail
      refine (T1 _).mono ?_; rintro e w2 ⟨rfl, hb2⟩
      have hz1 := heap_keep hb2 hz1
      have hz2 := heap_keep hb2 hz2
      have hbw2 := nx hbw1 hb2
      have hsz2 := Nat.le_trans hsz1 hb2.size
      obtain ⟨n1, n2⟩ := two_cells hz1
      obtain ⟨f1, f2⟩ := two_frozen hz1
      clear c1 k1 k2 hb2 hbw1 hsz1
      go_wp2_with fail
      have hr1 := set_first (u' := .string (p.1.dropAt x).str) hz1
      have hr2 : (w2.setCell ⟨w.heap.size, 0, none⟩ (.string (p.1.dropAt x).str)).heap[w.heap.size + 1]? = some (.cells #[.string ⟨#[]⟩, .string ⟨#[]⟩] 25 (0, 0)) := by
        rw [Below.heap_setCell _ _ _ _ (by simp)]; exact hz2
      have hbw3 : Below w.heap.size w (w2.setCell ⟨w.heap.size, 0, none⟩ (.string (p.1.dropAt x).str)) := hbw2.setCell (Nat.le_refl _) _
      have hsz3 : w.heap.size + 2 ≤ (w2.setCell ⟨w.heap.size, 0, none⟩ (.string (p.1.dropAt x).str)).heap.size := by simpa using hsz2
      generalize w2.setCell ⟨w.heap.size, 0, none⟩ (.string (p.1.dropAt x).str) = w3 at *
      clear hz1 hz2 n1 n2 f1 f2 hbw2 hsz2
      refine (T2 _).mono ?_; rintro e w4 ⟨rfl, hb4⟩
      have hz1 := heap_keep hb4 hr1
      have hz2 := heap_keep hb4 hr2
      have hbw4 := nx hbw3 hb4
      have hsz4 := Nat.le_trans hsz3 hb4.size
      obtain ⟨n1, n2⟩ := two_cells hz1
      obtain ⟨f1, f2⟩ := two_frozen hz1
      clear hr1 hr2 hbw3 hsz3 hb4
      go_wp2_with fail
      have hu1 := set_second (v' := .string (p.2.dropAt x).str) hz1
      have hu2 : (w4.setCell ⟨w.heap.size, 1, none⟩ (.string (p.2.dropAt x).str)).heap[w.heap.size + 1]? = some (.cells #[.string ⟨#[]⟩, .string ⟨#[]⟩] 25 (0, 0)) := by
        rw [Below.heap_setCell _ _ _ _ (by simp)]; exact hz2
      have hbw5 : Below w.heap.size w (w4.setCell ⟨w.heap.size, 1, none⟩ (.string (p.2.dropAt x).str)) := hbw4.setCell (Nat.le_refl _) _
      have hsz5 : w.heap.size + 2 ≤ (w4.setCell ⟨w.heap.size, 1, none⟩ (.string (p.2.dropAt x).str)).heap.size := by simpa using hsz4
      go_roundw
      case rel => exact ⟨dropP p x, hu1, hu2, hbw5, hsz5, by omega, by omega, by show _ = _; rw [he.out, hstep.out]⟩
      case measure =>
        rw [sizeAt_of hu1, HS1.out, Tr.str_size, Tr.str_size]
        have hd1' : (p.1.dropAt x).carets + 1 = p.1.carets := hd1
        omega
end Go.Proofs.YtjmbkieocmhmiaaGreat

/-! WReducePair -/
namespace Go.Proofs.YtjmbkieocmhmiaaGreat
open Go.RowKit

theorem prReduce_nil (p : Pr) (w : World) (h1 : p.1.carets ≤ 200) (h2 : p.2.carets ≤ 200) :
    Calls Tryz.prog 83 #[.agg #[.string p.1.str, .string p.2.str], .slice none 0 0] w (Gives (.agg #[.string (red p).1.str, .string (red p).2.str]) w) :=
  prReduce_any p _ [] 0 w h1 h2 (.inl ⟨rfl, rfl⟩) (fun c hc => by simp at hc)

set_option maxHeartbeats 1000000 in
theorem implReducePair_any (a b : ByteArray) (w : World) (ha : a.size ≤ 9223372036854775806) (hb : b.size ≤ 9223372036854775806) :
    Calls Tryz.prog 43 #[.agg #[.string a, .string b]] w (Gives (ansPr ((pairOf a b).bind fun p => some (red p))) w) := by
  have hg := fun w => isPair_any a b w ha hb
  cases h : pairOf a b with
  | none =>
    rw [h] at hg
    clear h
    go_enter Tryz.func43, Tryz.ntmps43
    go_wp2_with fail
    have hb0 : Below w.heap.size w ((w.alloc (.cells #[.string a, .string b] 25 (0, 0))).alloc (.cells #[.string ⟨#[]⟩, .string ⟨#[]⟩] 25 (0, 0))) := nxAlloc (nxAlloc (Below.refl _ _) _) _
    have hx0 := heap_keep (nxAlloc (Below.refl _ _) (.cells #[.string ⟨#[]⟩, .string ⟨#[]⟩] 25 (0, 0))) (heap_alloc_at w (.cells #[.string a, .string b] 25 (0, 0)))
    have hx1 := heap_alloc_at (w.alloc (.cells #[.string a, .string b] 25 (0, 0))) (.cells #[.string ⟨#[]⟩, .string ⟨#[]⟩] 25 (0, 0))
    generalize ((w.alloc (.cells #[.string a, .string b] 25 (0, 0))).alloc (.cells #[.string ⟨#[]⟩, .string ⟨#[]⟩] 25 (0, 0))) = w0 at *
    have e1 : (w.alloc (.cells #[.string a, .string b] 25 (0, 0))).heap.size = w.heap.size + 1 := by simp
    rw [e1] at hx1
    clear e1
    obtain ⟨hx0a, hx0b, hx0c⟩ := two_facts hx0
    obtain ⟨hx0f, hx0g⟩ := two_frozen hx0
    obtain ⟨hx1a, hx1b, hx1c⟩ := two_facts hx1
    obtain ⟨hx1f, hx1g⟩ := two_frozen hx1
    refine (hg _).mono ?_; rintro e w1 ⟨rfl, hb1⟩
    have hbw1 := nx hb0 hb1
    replace hx0 := heap_keep hb1 hx0
    replace hx1 := heap_keep hb1 hx1
    clear hx0a hx0b hx0c hx0f hx0g
    obtain ⟨hx0a, hx0b, hx0c⟩ := two_facts hx0
    obtain ⟨hx0f, hx0g⟩ := two_frozen hx0
    clear hx1a hx1b hx1c hx1f hx1g
    obtain ⟨hx1a, hx1b, hx1c⟩ := two_facts hx1
    obtain ⟨hx1f, hx1g⟩ := two_frozen hx1
    clear hb1 hb0
    go_wp2_with fail
    obtain ⟨q1, q2⟩ := two_cells (set_two (.string ⟨#[]⟩) (.string ⟨#[]⟩) hx1)
    refine bodyPost_ret (v := .tuple #[.agg #[.string ⟨#[]⟩, .string ⟨#[]⟩], .bool false]) (by simp [q1, q2, results, Tryz.results43, go_sem]) rfl ⟨rfl, ?_⟩
    exact (hbw1.setCell (by show w.heap.size ≤ w.heap.size + 1; omega) _).setCell (by show w.heap.size ≤ w.heap.size + 1; omega) _
  | some p =>
    rw [h] at hg
    obtain ⟨rfl, rfl, hok, hc1, hc2⟩ := pairOf_some h
    clear h
    show Calls _ _ _ _ (Gives (ansPr (some (red p))) w)
    go_enter Tryz.func43, Tryz.ntmps43
    go_wp2_with fail
    have hb0 : Below w.heap.size w ((w.alloc (.cells #[.string p.1.str, .string p.2.str] 25 (0, 0))).alloc (.cells #[.string ⟨#[]⟩, .string ⟨#[]⟩] 25 (0, 0))) := nxAlloc (nxAlloc (Below.refl _ _) _) _
    have hx0 := heap_keep (nxAlloc (Below.refl _ _) (.cells #[.string ⟨#[]⟩, .string ⟨#[]⟩] 25 (0, 0))) (heap_alloc_at w (.cells #[.string p.1.str, .string p.2.str] 25 (0, 0)))
    have hx1 := heap_alloc_at (w.alloc (.cells #[.string p.1.str, .string p.2.str] 25 (0, 0))) (.cells #[.string ⟨#[]⟩, .string ⟨#[]⟩] 25 (0, 0))
    generalize ((w.alloc (.cells #[.string p.1.str, .string p.2.str] 25 (0, 0))).alloc (.cells #[.string ⟨#[]⟩, .string ⟨#[]⟩] 25 (0, 0))) = w0 at *
    have e1 : (w.alloc (.cells #[.string p.1.str, .string p.2.str] 25 (0, 0))).heap.size = w.heap.size + 1 := by simp
    rw [e1] at hx1
    clear e1
    obtain ⟨hx0a, hx0b, hx0c⟩ := two_facts hx0
    obtain ⟨hx0f, hx0g⟩ := two_frozen hx0
    obtain ⟨hx1a, hx1b, hx1c⟩ := two_facts hx1
    obtain ⟨hx1f, hx1g⟩ := two_frozen hx1
    refine (hg _).mono ?_; rintro e w1 ⟨rfl, hb1⟩
    have hbw1 := nx hb0 hb1
    replace hx0 := heap_keep hb1 hx0
    replace hx1 := heap_keep hb1 hx1
    clear hx0a hx0b hx0c hx0f hx0g
    obtain ⟨hx0a, hx0b, hx0c⟩ := two_facts hx0
    obtain ⟨hx0f, hx0g⟩ := two_frozen hx0
    clear hx1a hx1b hx1c hx1f hx1g
    obtain ⟨hx1a, hx1b, hx1c⟩ := two_facts hx1
    obtain ⟨hx1f, hx1g⟩ := two_frozen hx1
    clear hb1 hb0
    go_wp2_with fail
    refine (reducedBy_first p _ (by omega) (by omega)).mono ?_; rintro e w2 ⟨rfl, hb2⟩
    have hbw2 := nx hbw1 hb2
    replace hx0 := heap_keep hb2 hx0
    replace hx1 := heap_keep hb2 hx1
    clear hx0a hx0b hx0c hx0f hx0g
    obtain ⟨hx0a, hx0b, hx0c⟩ := two_facts hx0
    obtain ⟨hx0f, hx0g⟩ := two_frozen hx0
    clear hx1a hx1b hx1c hx1f hx1g
    obtain ⟨hx1a, hx1b, hx1c⟩ := two_facts hx1
    obtain ⟨hx1f, hx1g⟩ := two_frozen hx1
    clear hb2 hbw1
    go_wp2_with fail
    obtain ⟨q1, q2⟩ := two_cells (set_two (.string (red p).1.str) (.string (red p).2.str) hx1)
    refine bodyPost_ret (v := .tuple #[.agg #[.string (red p).1.str, .string (red p).2.str], .bool true]) (by simp [q1, q2, results, Tryz.results43, go_sem]) rfl ⟨rfl, ?_⟩
    exact (hbw2.setCell (by show w.heap.size ≤ w.heap.size + 1; omega) _).setCell (by show w.heap.size ≤ w.heap.size + 1; omega) _

end Go.Proofs.YtjmbkieocmhmiaaGreat

/-! Join -/
namespace Go.Proofs.YtjmbkieocmhmiaaGreat
open Go.RowKit

set_option maxRecDepth 100000 in
set_option maxHeartbeats 2000000 in
theorem join_any (t : Tr) : ∀ (u : Tr) (b c : Nat) (w : World), NodeAt w t b → NodeAt w u c →
    Calls Tryz.prog 76 #[.pointer (some ⟨b, 0, none⟩), .pointer (some ⟨c, 0, none⟩)] w (GivesNode (t.join u) w) := by
  induction t with
  | lf =>
    intro u b c w h k
    have H := Lib.hid h
    have K := Lib.hid k
    clear h k
    go_enter Tryz.func76, Tryz.ntmps76
    go_wp2_with fail
    refine (isLeaf_any .lf b _ H.out).mono ?_; rintro e w1 ⟨rfl, rfl⟩
    simp only [Tr.isLf]
    go_wp2_with fail
    go_ret
    exact ⟨c, K.out, Below.refl _ _, rfl⟩
  | nd l r ihl ihr =>
    intro u b c w h k
    cases u with
    | lf =>
      have H := Lib.hid h
      have K := Lib.hid k
      clear h k ihl ihr
      go_enter Tryz.func76, Tryz.ntmps76
      go_wp2_with fail
      refine (isLeaf_any (.nd l r) b _ H.out).mono ?_; rintro e w1 ⟨rfl, rfl⟩
      simp only [Tr.isLf]
      go_wp2_with fail
      refine (isLeaf_any .lf c _ K.out).mono ?_; rintro e w1 ⟨rfl, rfl⟩
      simp only [Tr.isLf]
      go_wp2_with fail
      go_ret
      exact ⟨b, H.out, Below.refl _ _, rfl⟩
    | nd p q =>
      have H := Lib.hid h
      have K := Lib.hid k
      obtain ⟨bl, br, h, hl, hr⟩ := h
      obtain ⟨cl, cr, k, kl, kr⟩ := k
      have h1 := two_left h
      have h2 := two_right h
      have k1 := two_left k
      have k2 := two_right k
      clear h k
      go_enter Tryz.func76, Tryz.ntmps76
      go_wp2_with fail
      refine (isLeaf_any (.nd l r) b _ H.out).mono ?_; rintro e w1 ⟨rfl, rfl⟩
      simp only [Tr.isLf]
      go_wp2_with fail
      refine (isLeaf_any (.nd p q) c _ K.out).mono ?_; rintro e w1 ⟨rfl, rfl⟩
      simp only [Tr.isLf]
      go_wp2_with fail
      have hb0 := Below.refl w.heap.size w
      go_region_held3 (fun w' => w'.cell? ⟨b, 0, none⟩ = some (.pointer (some ⟨bl, 0, none⟩)) ∧ w'.cell? ⟨b, 1, none⟩ = some (.pointer (some ⟨br, 0, none⟩)) ∧ w'.cell? ⟨c, 0, none⟩ = some (.pointer (some ⟨cl, 0, none⟩)) ∧ w'.cell? ⟨c, 1, none⟩ = some (.pointer (some ⟨cr, 0, none⟩)))
          (first
            | exact ⟨h1, h2, k1, k2⟩
            | exact ⟨q1, q2, q3, q4⟩
            | exact ⟨s1, s2, s3, s4⟩
            | exact ⟨(a1 _).1, (a1 _).2, (a2 _).1, (a2 _).2⟩)
          (first
          | (go_at_call_of 76 (some (⟨bl, 0, none⟩ : Addr)); refine (ihl p bl cl _ ?_ ?_).mono ?_; exact hl.keep hb0.drew; exact kl.keep hb0.drew; rintro e w1 ⟨b1, hn1, hb1, rfl⟩; have hb1' := nx hb0.drew hb1; obtain ⟨q1, q2⟩ := below_two hb1' h1 h2; obtain ⟨q3, q4⟩ := below_two hb1' k1 k2)
          | (go_at_call_of 76 (some (⟨br, 0, none⟩ : Addr)); refine (ihr q br cr _ ?_ ?_).mono ?_; exact hr.keep hb1'; exact kr.keep hb1'; rintro e w2 ⟨b2, hn2, hb2, rfl⟩; have hb2' := nx hb1' hb2; obtain ⟨s1, s2⟩ := below_two hb2' h1 h2; obtain ⟨s3, s4⟩ := below_two hb2' k1 k2; have a1 := fun o => below_two (nxAlloc hb2' o) h1 h2; have a2 := fun o => below_two (nxAlloc hb2' o) k1 k2))
      all_goals (try go_wp2_with fail)
      all_goals go_ret
      all_goals exact ⟨_, node_new hn1 hb2 hn2, nxAlloc hb2' _, rfl⟩
end Go.Proofs.YtjmbkieocmhmiaaGreat

/-! Two -/
namespace Go.Proofs.YtjmbkieocmhmiaaGreat
open Go.RowKit

/-- An answer of two bools. -/
def ansB (o : Option Bool) : Value := .tuple #[.bool (o == some true), .bool o.isSome]
theorem com_str (t u : Tr) : ((t.com u).str.toList == t.str.toList) = t.part u := by
  rw [Bool.eq_iff_iff, ← com_eq_part]
  simp only [Lib.toList_data, Tr.str_list, beq_iff_eq]
  constructor
  · intro h
    exact (Tr.text_inj (r := []) (q := []) (by rw [h])).1
  · intro h; rw [h]

end Go.Proofs.YtjmbkieocmhmiaaGreat

/-! WIsReduced -/
namespace Go.Proofs.YtjmbkieocmhmiaaGreat
open Go.RowKit

theorem prBoth_tr (p : Pr) (w : World) (k1 : p.1.carets ≤ 200) (k2 : p.2.carets ≤ 200) : Calls Tryz.prog 115 #[.agg #[.string p.1.str, .string p.2.str]] w (GivesInts (both p) w) := by
  have := prBoth_any p.1.str p.2.str w (by have := p.1.str_size; omega) (by have := p.2.str_size; omega)
  rwa [bothL_str] at this
theorem str_inj {t u : Tr} (h : t.str.toList = u.str.toList) : t = u := by
  simp only [Lib.toList_data, Tr.str_list] at h
  exact (Tr.text_inj (r := []) (q := []) (by rw [h])).1

set_option maxHeartbeats 1000000 in
theorem implIsReduced_any (a b : ByteArray) (w : World) (ha : a.size ≤ 9223372036854775806) (hb : b.size ≤ 9223372036854775806) :
    Calls Tryz.prog 11 #[.agg #[.string a, .string b]] w (Gives (ansB ((pairOf a b).bind fun p => some (both p).isEmpty)) w) := by
  have hg := fun w => implReducePair_any a b w ha hb
  cases h : pairOf a b with
  | none =>
    rw [h] at hg
    unfold ansPr at hg
    clear h
    go_enter Tryz.func11, Tryz.ntmps11
    go_wp2_with fail
    have hb0 : Below w.heap.size w (w.alloc (.cells #[.string a, .string b] 25 (0, 0))) := nxAlloc (Below.refl _ _) _
    have hx0 := heap_alloc_at w (.cells #[.string a, .string b] 25 (0, 0))
    generalize (w.alloc (.cells #[.string a, .string b] 25 (0, 0))) = w0 at *
    obtain ⟨hx0a, hx0b, hx0c⟩ := two_facts hx0
    obtain ⟨hx0f, hx0g⟩ := two_frozen hx0
    refine (hg _).mono ?_; rintro e w1 ⟨rfl, hb1⟩
    have hbw1 := nx hb0 hb1
    replace hx0 := heap_keep hb1 hx0
    clear hx0a hx0b hx0c hx0f hx0g
    obtain ⟨hx0a, hx0b, hx0c⟩ := two_facts hx0
    obtain ⟨hx0f, hx0g⟩ := two_frozen hx0
    clear hb1 hb0
    go_wp2_with fail
    go_ret2
    exact ⟨rfl, nxAlloc hbw1 _⟩
  | some p =>
    rw [h] at hg
    obtain ⟨rfl, rfl, hok, hc1, hc2⟩ := pairOf_some h
    clear h
    show Calls _ _ _ _ (Gives (ansB (some (both p).isEmpty)) w)
    have hg' : ∀ w, Calls Tryz.prog 43 #[.agg #[.string p.1.str, .string p.2.str]] w (Gives (.tuple #[.agg #[.string (red p).1.str, .string (red p).2.str], .bool true]) w) := hg
    clear hg
    cases hbp : both p with
    | nil =>
      have hr := (red_self p).2 hbp
      rw [hr] at hg'
      clear hr hbp
      go_enter Tryz.func11, Tryz.ntmps11
      go_wp2_with fail
      have hb0 : Below w.heap.size w (w.alloc (.cells #[.string p.1.str, .string p.2.str] 25 (0, 0))) := nxAlloc (Below.refl _ _) _
      have hx0 := heap_alloc_at w (.cells #[.string p.1.str, .string p.2.str] 25 (0, 0))
      generalize (w.alloc (.cells #[.string p.1.str, .string p.2.str] 25 (0, 0))) = w0 at *
      obtain ⟨hx0a, hx0b, hx0c⟩ := two_facts hx0
      obtain ⟨hx0f, hx0g⟩ := two_frozen hx0
      refine (hg' _).mono ?_; rintro e w1 ⟨rfl, hb1⟩
      have hbw1 := nx hb0 hb1
      replace hx0 := heap_keep hb1 hx0
      clear hx0a hx0b hx0c hx0f hx0g
      obtain ⟨hx0a, hx0b, hx0c⟩ := two_facts hx0
      obtain ⟨hx0f, hx0g⟩ := two_frozen hx0
      clear hb1 hb0
      go_wp2_with fail
      have hbw2 := nxAlloc hbw1 (.cells #[.string p.1.str, .string p.2.str] 25 (0, 0))
      replace hx0 := heap_keep (nxAlloc (Below.refl _ _) (.cells #[.string p.1.str, .string p.2.str] 25 (0, 0))) hx0
      have hy2 := heap_alloc_at w1 (.cells #[.string p.1.str, .string p.2.str] 25 (0, 0))
      generalize w1.alloc (.cells #[.string p.1.str, .string p.2.str] 25 (0, 0)) = w2 at *
      clear hbw1
      clear hx0a hx0b hx0c hx0f hx0g
      obtain ⟨hx0a, hx0b, hx0c⟩ := two_facts hx0
      obtain ⟨hx0f, hx0g⟩ := two_frozen hx0
      obtain ⟨hy2a, hy2b, hy2c⟩ := two_facts hy2
      obtain ⟨hy2f, hy2g⟩ := two_frozen hy2
      go_wp2_with fail
      go_ret2
      exact ⟨rfl, hbw2⟩
    | cons n ns =>
      have hr : ¬ red p = p := fun e => by rw [(red_self p).1 e] at hbp; cases hbp
      clear hbp
      by_cases h1 : (red p).1 = p.1
      · have h2 : ¬ p.2.str.toList = (red p).2.str.toList := fun e => hr (Prod.ext h1 (str_inj e).symm)
        rw [h1] at hg'
        clear h1 hr
        go_enter Tryz.func11, Tryz.ntmps11
        go_wp2_with fail
        have hb0 : Below w.heap.size w (w.alloc (.cells #[.string p.1.str, .string p.2.str] 25 (0, 0))) := nxAlloc (Below.refl _ _) _
        have hx0 := heap_alloc_at w (.cells #[.string p.1.str, .string p.2.str] 25 (0, 0))
        generalize (w.alloc (.cells #[.string p.1.str, .string p.2.str] 25 (0, 0))) = w0 at *
        obtain ⟨hx0a, hx0b, hx0c⟩ := two_facts hx0
        obtain ⟨hx0f, hx0g⟩ := two_frozen hx0
        refine (hg' _).mono ?_; rintro e w1 ⟨rfl, hb1⟩
        have hbw1 := nx hb0 hb1
        replace hx0 := heap_keep hb1 hx0
        clear hx0a hx0b hx0c hx0f hx0g
        obtain ⟨hx0a, hx0b, hx0c⟩ := two_facts hx0
        obtain ⟨hx0f, hx0g⟩ := two_frozen hx0
        clear hb1 hb0
        go_wp2_with fail
        have hbw2 := nxAlloc hbw1 (.cells #[.string p.1.str, .string (red p).2.str] 25 (0, 0))
        replace hx0 := heap_keep (nxAlloc (Below.refl _ _) (.cells #[.string p.1.str, .string (red p).2.str] 25 (0, 0))) hx0
        have hy2 := heap_alloc_at w1 (.cells #[.string p.1.str, .string (red p).2.str] 25 (0, 0))
        generalize w1.alloc (.cells #[.string p.1.str, .string (red p).2.str] 25 (0, 0)) = w2 at *
        clear hbw1
        clear hx0a hx0b hx0c hx0f hx0g
        obtain ⟨hx0a, hx0b, hx0c⟩ := two_facts hx0
        obtain ⟨hx0f, hx0g⟩ := two_frozen hx0
        obtain ⟨hy2a, hy2b, hy2c⟩ := two_facts hy2
        obtain ⟨hy2f, hy2g⟩ := two_frozen hy2
        go_wp2_with fail
        go_ret2
        exact ⟨rfl, hbw2⟩
      · have h2 : ¬ p.1.str.toList = (red p).1.str.toList := fun e => h1 (str_inj e).symm
        clear h1 hr
        go_enter Tryz.func11, Tryz.ntmps11
        go_wp2_with fail
        have hb0 : Below w.heap.size w (w.alloc (.cells #[.string p.1.str, .string p.2.str] 25 (0, 0))) := nxAlloc (Below.refl _ _) _
        have hx0 := heap_alloc_at w (.cells #[.string p.1.str, .string p.2.str] 25 (0, 0))
        generalize (w.alloc (.cells #[.string p.1.str, .string p.2.str] 25 (0, 0))) = w0 at *
        obtain ⟨hx0a, hx0b, hx0c⟩ := two_facts hx0
        obtain ⟨hx0f, hx0g⟩ := two_frozen hx0
        refine (hg' _).mono ?_; rintro e w1 ⟨rfl, hb1⟩
        have hbw1 := nx hb0 hb1
        replace hx0 := heap_keep hb1 hx0
        clear hx0a hx0b hx0c hx0f hx0g
        obtain ⟨hx0a, hx0b, hx0c⟩ := two_facts hx0
        obtain ⟨hx0f, hx0g⟩ := two_frozen hx0
        clear hb1 hb0
        go_wp2_with fail
        have hbw2 := nxAlloc hbw1 (.cells #[.string (red p).1.str, .string (red p).2.str] 25 (0, 0))
        replace hx0 := heap_keep (nxAlloc (Below.refl _ _) (.cells #[.string (red p).1.str, .string (red p).2.str] 25 (0, 0))) hx0
        have hy2 := heap_alloc_at w1 (.cells #[.string (red p).1.str, .string (red p).2.str] 25 (0, 0))
        generalize w1.alloc (.cells #[.string (red p).1.str, .string (red p).2.str] 25 (0, 0)) = w2 at *
        clear hbw1
        clear hx0a hx0b hx0c hx0f hx0g
        obtain ⟨hx0a, hx0b, hx0c⟩ := two_facts hx0
        obtain ⟨hx0f, hx0g⟩ := two_frozen hx0
        obtain ⟨hy2a, hy2b, hy2c⟩ := two_facts hy2
        obtain ⟨hy2f, hy2g⟩ := two_frozen hy2
        go_wp2_with fail
        go_ret2
        exact ⟨rfl, hbw2⟩

end Go.Proofs.YtjmbkieocmhmiaaGreat

/-! WAreSamePairs -/
namespace Go.Proofs.YtjmbkieocmhmiaaGreat
open Go.RowKit

/-- Do both pairs have the same reduced one? -/
noncomputable def sameB (p q : Pr) : Bool := @decide (red p = red q) (Classical.propDecidable _)

set_option maxRecDepth 100000 in
set_option maxHeartbeats 2000000 in
theorem implAreSamePairs_any (a b c d : ByteArray) (w : World) (ha : a.size ≤ 9223372036854775806) (hb : b.size ≤ 9223372036854775806) (hc : c.size ≤ 9223372036854775806) (hd : d.size ≤ 9223372036854775806) :
    Calls Tryz.prog 44 #[.agg #[.string a, .string b], .agg #[.string c, .string d]] w (Gives (ansB ((pairOf a b).bind fun p => (pairOf c d).bind fun q => some (sameB p q))) w) := by
  have hg := fun w => implReducePair_any a b w ha hb
  have hk := fun w => implReducePair_any c d w hc hd
  cases h : pairOf a b with
  | none =>
    rw [h] at hg
    unfold ansPr at hg
    clear h hk
    go_enter Tryz.func44, Tryz.ntmps44
    go_wp2_with fail
    have hb0 : Below w.heap.size w ((w.alloc (.cells #[.string a, .string b] 25 (0, 0))).alloc (.cells #[.string c, .string d] 25 (0, 0))) := nxAlloc (nxAlloc (Below.refl _ _) _) _
    have hx0 := heap_keep (nxAlloc (Below.refl _ _) (.cells #[.string c, .string d] 25 (0, 0))) (heap_alloc_at w (.cells #[.string a, .string b] 25 (0, 0)))
    have hx1 := heap_alloc_at (w.alloc (.cells #[.string a, .string b] 25 (0, 0))) (.cells #[.string c, .string d] 25 (0, 0))
    generalize ((w.alloc (.cells #[.string a, .string b] 25 (0, 0))).alloc (.cells #[.string c, .string d] 25 (0, 0))) = w0 at *
    have e1 : (w.alloc (.cells #[.string a, .string b] 25 (0, 0))).heap.size = w.heap.size + 1 := by simp
    rw [e1] at hx1
    clear e1
    obtain ⟨hx0a, hx0b, hx0c⟩ := two_facts hx0
    obtain ⟨hx0f, hx0g⟩ := two_frozen hx0
    obtain ⟨hx1a, hx1b, hx1c⟩ := two_facts hx1
    obtain ⟨hx1f, hx1g⟩ := two_frozen hx1
    refine (hg _).mono ?_; rintro e w1 ⟨rfl, hb1⟩
    have hbw1 := nx hb0 hb1
    replace hx0 := heap_keep hb1 hx0
    replace hx1 := heap_keep hb1 hx1
    clear hx0a hx0b hx0c hx0f hx0g
    obtain ⟨hx0a, hx0b, hx0c⟩ := two_facts hx0
    obtain ⟨hx0f, hx0g⟩ := two_frozen hx0
    clear hx1a hx1b hx1c hx1f hx1g
    obtain ⟨hx1a, hx1b, hx1c⟩ := two_facts hx1
    obtain ⟨hx1f, hx1g⟩ := two_frozen hx1
    clear hb1 hb0
    go_wp2_with fail
    go_ret2
    exact ⟨rfl, nxAlloc hbw1 _⟩
  | some p =>
    rw [h] at hg
    obtain ⟨rfl, rfl, hok1, hp1, hp2⟩ := pairOf_some h
    clear h
    have P0 : ∀ w, Calls Tryz.prog 43 #[.agg #[.string p.1.str, .string p.2.str]] w (Gives (.tuple #[.agg #[.string (red p).1.str, .string (red p).2.str], .bool true]) w) := hg
    clear hg
    cases k : pairOf c d with
    | none =>
      rw [k] at hk
      unfold ansPr at hk
      clear k
      go_enter Tryz.func44, Tryz.ntmps44
      go_wp2_with fail
      have hb0 : Below w.heap.size w ((w.alloc (.cells #[.string p.1.str, .string p.2.str] 25 (0, 0))).alloc (.cells #[.string c, .string d] 25 (0, 0))) := nxAlloc (nxAlloc (Below.refl _ _) _) _
      have hx0 := heap_keep (nxAlloc (Below.refl _ _) (.cells #[.string c, .string d] 25 (0, 0))) (heap_alloc_at w (.cells #[.string p.1.str, .string p.2.str] 25 (0, 0)))
      have hx1 := heap_alloc_at (w.alloc (.cells #[.string p.1.str, .string p.2.str] 25 (0, 0))) (.cells #[.string c, .string d] 25 (0, 0))
      generalize ((w.alloc (.cells #[.string p.1.str, .string p.2.str] 25 (0, 0))).alloc (.cells #[.string c, .string d] 25 (0, 0))) = w0 at *
      have e1 : (w.alloc (.cells #[.string p.1.str, .string p.2.str] 25 (0, 0))).heap.size = w.heap.size + 1 := by simp
      rw [e1] at hx1
      clear e1
      obtain ⟨hx0a, hx0b, hx0c⟩ := two_facts hx0
      obtain ⟨hx0f, hx0g⟩ := two_frozen hx0
      obtain ⟨hx1a, hx1b, hx1c⟩ := two_facts hx1
      obtain ⟨hx1f, hx1g⟩ := two_frozen hx1
      refine (P0 _).mono ?_; rintro e w1 ⟨rfl, hb1⟩
      have hbw1 := nx hb0 hb1
      replace hx0 := heap_keep hb1 hx0
      replace hx1 := heap_keep hb1 hx1
      clear hx0a hx0b hx0c hx0f hx0g
      obtain ⟨hx0a, hx0b, hx0c⟩ := two_facts hx0
      obtain ⟨hx0f, hx0g⟩ := two_frozen hx0
      clear hx1a hx1b hx1c hx1f hx1g
      obtain ⟨hx1a, hx1b, hx1c⟩ := two_facts hx1
      obtain ⟨hx1f, hx1g⟩ := two_frozen hx1
      clear hb1 hb0
      go_wp2_with fail
      have hbw2 := nxAlloc hbw1 (.cells #[.string (red p).1.str, .string (red p).2.str] 25 (0, 0))
      replace hx0 := heap_keep (nxAlloc (Below.refl _ _) (.cells #[.string (red p).1.str, .string (red p).2.str] 25 (0, 0))) hx0
      replace hx1 := heap_keep (nxAlloc (Below.refl _ _) (.cells #[.string (red p).1.str, .string (red p).2.str] 25 (0, 0))) hx1
      have hy2 := heap_alloc_at w1 (.cells #[.string (red p).1.str, .string (red p).2.str] 25 (0, 0))
      generalize w1.alloc (.cells #[.string (red p).1.str, .string (red p).2.str] 25 (0, 0)) = w2 at *
      clear hbw1
      clear hx0a hx0b hx0c hx0f hx0g
      obtain ⟨hx0a, hx0b, hx0c⟩ := two_facts hx0
      obtain ⟨hx0f, hx0g⟩ := two_frozen hx0
      clear hx1a hx1b hx1c hx1f hx1g
      obtain ⟨hx1a, hx1b, hx1c⟩ := two_facts hx1
      obtain ⟨hx1f, hx1g⟩ := two_frozen hx1
      obtain ⟨hy2a, hy2b, hy2c⟩ := two_facts hy2
      obtain ⟨hy2f, hy2g⟩ := two_frozen hy2
      go_wp2_with fail
      refine (hk _).mono ?_; rintro e w3 ⟨rfl, hb3⟩
      have hbw3 := nx hbw2 hb3
      replace hx0 := heap_keep hb3 hx0
      replace hx1 := heap_keep hb3 hx1
      replace hy2 := heap_keep hb3 hy2
      clear hx0a hx0b hx0c hx0f hx0g
      obtain ⟨hx0a, hx0b, hx0c⟩ := two_facts hx0
      obtain ⟨hx0f, hx0g⟩ := two_frozen hx0
      clear hx1a hx1b hx1c hx1f hx1g
      obtain ⟨hx1a, hx1b, hx1c⟩ := two_facts hx1
      obtain ⟨hx1f, hx1g⟩ := two_frozen hx1
      clear hy2a hy2b hy2c hy2f hy2g
      obtain ⟨hy2a, hy2b, hy2c⟩ := two_facts hy2
      obtain ⟨hy2f, hy2g⟩ := two_frozen hy2
      clear hb3 hbw2
      go_wp2_with fail
      go_ret2
      exact ⟨rfl, nxAlloc hbw3 _⟩
    | some q =>
      rw [k] at hk
      obtain ⟨rfl, rfl, hok2, hq1, hq2⟩ := pairOf_some k
      clear k
      show Calls _ _ _ _ (Gives (ansB (some (sameB p q))) w)
      have Q0 : ∀ w, Calls Tryz.prog 43 #[.agg #[.string q.1.str, .string q.2.str]] w (Gives (.tuple #[.agg #[.string (red q).1.str, .string (red q).2.str], .bool true]) w) := hk
      clear hk
      have hcase : (red p = red q) ∨ ((red p).1 = (red q).1 ∧ ¬ (red p).2.str.toList = (red q).2.str.toList ∧ ¬ red p = red q) ∨ (¬ (red p).1.str.toList = (red q).1.str.toList ∧ ¬ red p = red q) := by
        by_cases h1 : (red p).1 = (red q).1
        · by_cases h2 : (red p).2 = (red q).2
          · exact .inl (Prod.ext h1 h2)
          · exact .inr (.inl ⟨h1, fun e => h2 (str_inj e), fun e => h2 (by rw [e])⟩)
        · exact .inr (.inr ⟨fun e => h1 (str_inj e), fun e => h1 (by rw [e])⟩)
      rcases hcase with h1 | ⟨h1, h2, h3⟩ | ⟨h1, h3⟩
      · have P := P0; have Q := Q0; rw [h1] at P
        rw [show sameB p q = true by simp [sameB, h1]]
        clear P0 Q0 h1
        go_enter Tryz.func44, Tryz.ntmps44
        go_wp2_with fail
        have hb0 : Below w.heap.size w ((w.alloc (.cells #[.string p.1.str, .string p.2.str] 25 (0, 0))).alloc (.cells #[.string q.1.str, .string q.2.str] 25 (0, 0))) := nxAlloc (nxAlloc (Below.refl _ _) _) _
        have hx0 := heap_keep (nxAlloc (Below.refl _ _) (.cells #[.string q.1.str, .string q.2.str] 25 (0, 0))) (heap_alloc_at w (.cells #[.string p.1.str, .string p.2.str] 25 (0, 0)))
        have hx1 := heap_alloc_at (w.alloc (.cells #[.string p.1.str, .string p.2.str] 25 (0, 0))) (.cells #[.string q.1.str, .string q.2.str] 25 (0, 0))
        generalize ((w.alloc (.cells #[.string p.1.str, .string p.2.str] 25 (0, 0))).alloc (.cells #[.string q.1.str, .string q.2.str] 25 (0, 0))) = w0 at *
        have e1 : (w.alloc (.cells #[.string p.1.str, .string p.2.str] 25 (0, 0))).heap.size = w.heap.size + 1 := by simp
        rw [e1] at hx1
        clear e1
        obtain ⟨hx0a, hx0b, hx0c⟩ := two_facts hx0
        obtain ⟨hx0f, hx0g⟩ := two_frozen hx0
        obtain ⟨hx1a, hx1b, hx1c⟩ := two_facts hx1
        obtain ⟨hx1f, hx1g⟩ := two_frozen hx1
        refine (P _).mono ?_; rintro e w1 ⟨rfl, hb1⟩
        have hbw1 := nx hb0 hb1
        replace hx0 := heap_keep hb1 hx0
        replace hx1 := heap_keep hb1 hx1
        clear hx0a hx0b hx0c hx0f hx0g
        obtain ⟨hx0a, hx0b, hx0c⟩ := two_facts hx0
        obtain ⟨hx0f, hx0g⟩ := two_frozen hx0
        clear hx1a hx1b hx1c hx1f hx1g
        obtain ⟨hx1a, hx1b, hx1c⟩ := two_facts hx1
        obtain ⟨hx1f, hx1g⟩ := two_frozen hx1
        clear hb1 hb0
        go_wp2_with fail
        have hbw2 := nxAlloc hbw1 (.cells #[.string (red q).1.str, .string (red q).2.str] 25 (0, 0))
        replace hx0 := heap_keep (nxAlloc (Below.refl _ _) (.cells #[.string (red q).1.str, .string (red q).2.str] 25 (0, 0))) hx0
        replace hx1 := heap_keep (nxAlloc (Below.refl _ _) (.cells #[.string (red q).1.str, .string (red q).2.str] 25 (0, 0))) hx1
        have hy2 := heap_alloc_at w1 (.cells #[.string (red q).1.str, .string (red q).2.str] 25 (0, 0))
        generalize w1.alloc (.cells #[.string (red q).1.str, .string (red q).2.str] 25 (0, 0)) = w2 at *
        clear hbw1
        clear hx0a hx0b hx0c hx0f hx0g
        obtain ⟨hx0a, hx0b, hx0c⟩ := two_facts hx0
        obtain ⟨hx0f, hx0g⟩ := two_frozen hx0
        clear hx1a hx1b hx1c hx1f hx1g
        obtain ⟨hx1a, hx1b, hx1c⟩ := two_facts hx1
        obtain ⟨hx1f, hx1g⟩ := two_frozen hx1
        obtain ⟨hy2a, hy2b, hy2c⟩ := two_facts hy2
        obtain ⟨hy2f, hy2g⟩ := two_frozen hy2
        go_wp2_with fail
        refine (Q _).mono ?_; rintro e w3 ⟨rfl, hb3⟩
        have hbw3 := nx hbw2 hb3
        replace hx0 := heap_keep hb3 hx0
        replace hx1 := heap_keep hb3 hx1
        replace hy2 := heap_keep hb3 hy2
        clear hx0a hx0b hx0c hx0f hx0g
        obtain ⟨hx0a, hx0b, hx0c⟩ := two_facts hx0
        obtain ⟨hx0f, hx0g⟩ := two_frozen hx0
        clear hx1a hx1b hx1c hx1f hx1g
        obtain ⟨hx1a, hx1b, hx1c⟩ := two_facts hx1
        obtain ⟨hx1f, hx1g⟩ := two_frozen hx1
        clear hy2a hy2b hy2c hy2f hy2g
        obtain ⟨hy2a, hy2b, hy2c⟩ := two_facts hy2
        obtain ⟨hy2f, hy2g⟩ := two_frozen hy2
        clear hb3 hbw2
        go_wp2_with fail
        have hbw4 := nxAlloc hbw3 (.cells #[.string (red q).1.str, .string (red q).2.str] 25 (0, 0))
        replace hx0 := heap_keep (nxAlloc (Below.refl _ _) (.cells #[.string (red q).1.str, .string (red q).2.str] 25 (0, 0))) hx0
        replace hx1 := heap_keep (nxAlloc (Below.refl _ _) (.cells #[.string (red q).1.str, .string (red q).2.str] 25 (0, 0))) hx1
        replace hy2 := heap_keep (nxAlloc (Below.refl _ _) (.cells #[.string (red q).1.str, .string (red q).2.str] 25 (0, 0))) hy2
        have hy4 := heap_alloc_at w3 (.cells #[.string (red q).1.str, .string (red q).2.str] 25 (0, 0))
        generalize w3.alloc (.cells #[.string (red q).1.str, .string (red q).2.str] 25 (0, 0)) = w4 at *
        clear hbw3
        clear hx0a hx0b hx0c hx0f hx0g
        obtain ⟨hx0a, hx0b, hx0c⟩ := two_facts hx0
        obtain ⟨hx0f, hx0g⟩ := two_frozen hx0
        clear hx1a hx1b hx1c hx1f hx1g
        obtain ⟨hx1a, hx1b, hx1c⟩ := two_facts hx1
        obtain ⟨hx1f, hx1g⟩ := two_frozen hx1
        clear hy2a hy2b hy2c hy2f hy2g
        obtain ⟨hy2a, hy2b, hy2c⟩ := two_facts hy2
        obtain ⟨hy2f, hy2g⟩ := two_frozen hy2
        obtain ⟨hy4a, hy4b, hy4c⟩ := two_facts hy4
        obtain ⟨hy4f, hy4g⟩ := two_frozen hy4
        go_wp2_with fail
        go_ret2
        exact ⟨rfl, hbw4⟩
      · have P := P0; have Q := Q0; rw [h1] at P
        rw [show sameB p q = false by simp [sameB, h3]]
        clear P0 Q0 h1 h3
        go_enter Tryz.func44, Tryz.ntmps44
        go_wp2_with fail
        have hb0 : Below w.heap.size w ((w.alloc (.cells #[.string p.1.str, .string p.2.str] 25 (0, 0))).alloc (.cells #[.string q.1.str, .string q.2.str] 25 (0, 0))) := nxAlloc (nxAlloc (Below.refl _ _) _) _
        have hx0 := heap_keep (nxAlloc (Below.refl _ _) (.cells #[.string q.1.str, .string q.2.str] 25 (0, 0))) (heap_alloc_at w (.cells #[.string p.1.str, .string p.2.str] 25 (0, 0)))
        have hx1 := heap_alloc_at (w.alloc (.cells #[.string p.1.str, .string p.2.str] 25 (0, 0))) (.cells #[.string q.1.str, .string q.2.str] 25 (0, 0))
        generalize ((w.alloc (.cells #[.string p.1.str, .string p.2.str] 25 (0, 0))).alloc (.cells #[.string q.1.str, .string q.2.str] 25 (0, 0))) = w0 at *
        have e1 : (w.alloc (.cells #[.string p.1.str, .string p.2.str] 25 (0, 0))).heap.size = w.heap.size + 1 := by simp
        rw [e1] at hx1
        clear e1
        obtain ⟨hx0a, hx0b, hx0c⟩ := two_facts hx0
        obtain ⟨hx0f, hx0g⟩ := two_frozen hx0
        obtain ⟨hx1a, hx1b, hx1c⟩ := two_facts hx1
        obtain ⟨hx1f, hx1g⟩ := two_frozen hx1
        refine (P _).mono ?_; rintro e w1 ⟨rfl, hb1⟩
        have hbw1 := nx hb0 hb1
        replace hx0 := heap_keep hb1 hx0
        replace hx1 := heap_keep hb1 hx1
        clear hx0a hx0b hx0c hx0f hx0g
        obtain ⟨hx0a, hx0b, hx0c⟩ := two_facts hx0
        obtain ⟨hx0f, hx0g⟩ := two_frozen hx0
        clear hx1a hx1b hx1c hx1f hx1g
        obtain ⟨hx1a, hx1b, hx1c⟩ := two_facts hx1
        obtain ⟨hx1f, hx1g⟩ := two_frozen hx1
        clear hb1 hb0
        go_wp2_with fail
        have hbw2 := nxAlloc hbw1 (.cells #[.string (red q).1.str, .string (red p).2.str] 25 (0, 0))
        replace hx0 := heap_keep (nxAlloc (Below.refl _ _) (.cells #[.string (red q).1.str, .string (red p).2.str] 25 (0, 0))) hx0
        replace hx1 := heap_keep (nxAlloc (Below.refl _ _) (.cells #[.string (red q).1.str, .string (red p).2.str] 25 (0, 0))) hx1
        have hy2 := heap_alloc_at w1 (.cells #[.string (red q).1.str, .string (red p).2.str] 25 (0, 0))
        generalize w1.alloc (.cells #[.string (red q).1.str, .string (red p).2.str] 25 (0, 0)) = w2 at *
        clear hbw1
        clear hx0a hx0b hx0c hx0f hx0g
        obtain ⟨hx0a, hx0b, hx0c⟩ := two_facts hx0
        obtain ⟨hx0f, hx0g⟩ := two_frozen hx0
        clear hx1a hx1b hx1c hx1f hx1g
        obtain ⟨hx1a, hx1b, hx1c⟩ := two_facts hx1
        obtain ⟨hx1f, hx1g⟩ := two_frozen hx1
        obtain ⟨hy2a, hy2b, hy2c⟩ := two_facts hy2
        obtain ⟨hy2f, hy2g⟩ := two_frozen hy2
        go_wp2_with fail
        refine (Q _).mono ?_; rintro e w3 ⟨rfl, hb3⟩
        have hbw3 := nx hbw2 hb3
        replace hx0 := heap_keep hb3 hx0
        replace hx1 := heap_keep hb3 hx1
        replace hy2 := heap_keep hb3 hy2
        clear hx0a hx0b hx0c hx0f hx0g
        obtain ⟨hx0a, hx0b, hx0c⟩ := two_facts hx0
        obtain ⟨hx0f, hx0g⟩ := two_frozen hx0
        clear hx1a hx1b hx1c hx1f hx1g
        obtain ⟨hx1a, hx1b, hx1c⟩ := two_facts hx1
        obtain ⟨hx1f, hx1g⟩ := two_frozen hx1
        clear hy2a hy2b hy2c hy2f hy2g
        obtain ⟨hy2a, hy2b, hy2c⟩ := two_facts hy2
        obtain ⟨hy2f, hy2g⟩ := two_frozen hy2
        clear hb3 hbw2
        go_wp2_with fail
        have hbw4 := nxAlloc hbw3 (.cells #[.string (red q).1.str, .string (red q).2.str] 25 (0, 0))
        replace hx0 := heap_keep (nxAlloc (Below.refl _ _) (.cells #[.string (red q).1.str, .string (red q).2.str] 25 (0, 0))) hx0
        replace hx1 := heap_keep (nxAlloc (Below.refl _ _) (.cells #[.string (red q).1.str, .string (red q).2.str] 25 (0, 0))) hx1
        replace hy2 := heap_keep (nxAlloc (Below.refl _ _) (.cells #[.string (red q).1.str, .string (red q).2.str] 25 (0, 0))) hy2
        have hy4 := heap_alloc_at w3 (.cells #[.string (red q).1.str, .string (red q).2.str] 25 (0, 0))
        generalize w3.alloc (.cells #[.string (red q).1.str, .string (red q).2.str] 25 (0, 0)) = w4 at *
        clear hbw3
        clear hx0a hx0b hx0c hx0f hx0g
        obtain ⟨hx0a, hx0b, hx0c⟩ := two_facts hx0
        obtain ⟨hx0f, hx0g⟩ := two_frozen hx0
        clear hx1a hx1b hx1c hx1f hx1g
        obtain ⟨hx1a, hx1b, hx1c⟩ := two_facts hx1
        obtain ⟨hx1f, hx1g⟩ := two_frozen hx1
        clear hy2a hy2b hy2c hy2f hy2g
        obtain ⟨hy2a, hy2b, hy2c⟩ := two_facts hy2
        obtain ⟨hy2f, hy2g⟩ := two_frozen hy2
        obtain ⟨hy4a, hy4b, hy4c⟩ := two_facts hy4
        obtain ⟨hy4f, hy4g⟩ := two_frozen hy4
        go_wp2_with fail
        go_ret2
        exact ⟨rfl, hbw4⟩
      · have P := P0; have Q := Q0
        rw [show sameB p q = false by simp [sameB, h3]]
        clear P0 Q0 h3
        go_enter Tryz.func44, Tryz.ntmps44
        go_wp2_with fail
        have hb0 : Below w.heap.size w ((w.alloc (.cells #[.string p.1.str, .string p.2.str] 25 (0, 0))).alloc (.cells #[.string q.1.str, .string q.2.str] 25 (0, 0))) := nxAlloc (nxAlloc (Below.refl _ _) _) _
        have hx0 := heap_keep (nxAlloc (Below.refl _ _) (.cells #[.string q.1.str, .string q.2.str] 25 (0, 0))) (heap_alloc_at w (.cells #[.string p.1.str, .string p.2.str] 25 (0, 0)))
        have hx1 := heap_alloc_at (w.alloc (.cells #[.string p.1.str, .string p.2.str] 25 (0, 0))) (.cells #[.string q.1.str, .string q.2.str] 25 (0, 0))
        generalize ((w.alloc (.cells #[.string p.1.str, .string p.2.str] 25 (0, 0))).alloc (.cells #[.string q.1.str, .string q.2.str] 25 (0, 0))) = w0 at *
        have e1 : (w.alloc (.cells #[.string p.1.str, .string p.2.str] 25 (0, 0))).heap.size = w.heap.size + 1 := by simp
        rw [e1] at hx1
        clear e1
        obtain ⟨hx0a, hx0b, hx0c⟩ := two_facts hx0
        obtain ⟨hx0f, hx0g⟩ := two_frozen hx0
        obtain ⟨hx1a, hx1b, hx1c⟩ := two_facts hx1
        obtain ⟨hx1f, hx1g⟩ := two_frozen hx1
        refine (P _).mono ?_; rintro e w1 ⟨rfl, hb1⟩
        have hbw1 := nx hb0 hb1
        replace hx0 := heap_keep hb1 hx0
        replace hx1 := heap_keep hb1 hx1
        clear hx0a hx0b hx0c hx0f hx0g
        obtain ⟨hx0a, hx0b, hx0c⟩ := two_facts hx0
        obtain ⟨hx0f, hx0g⟩ := two_frozen hx0
        clear hx1a hx1b hx1c hx1f hx1g
        obtain ⟨hx1a, hx1b, hx1c⟩ := two_facts hx1
        obtain ⟨hx1f, hx1g⟩ := two_frozen hx1
        clear hb1 hb0
        go_wp2_with fail
        have hbw2 := nxAlloc hbw1 (.cells #[.string (red p).1.str, .string (red p).2.str] 25 (0, 0))
        replace hx0 := heap_keep (nxAlloc (Below.refl _ _) (.cells #[.string (red p).1.str, .string (red p).2.str] 25 (0, 0))) hx0
        replace hx1 := heap_keep (nxAlloc (Below.refl _ _) (.cells #[.string (red p).1.str, .string (red p).2.str] 25 (0, 0))) hx1
        have hy2 := heap_alloc_at w1 (.cells #[.string (red p).1.str, .string (red p).2.str] 25 (0, 0))
        generalize w1.alloc (.cells #[.string (red p).1.str, .string (red p).2.str] 25 (0, 0)) = w2 at *
        clear hbw1
        clear hx0a hx0b hx0c hx0f hx0g
        obtain ⟨hx0a, hx0b, hx0c⟩ := two_facts hx0
        obtain ⟨hx0f, hx0g⟩ := two_frozen hx0
        clear hx1a hx1b hx1c hx1f hx1g
        obtain ⟨hx1a, hx1b, hx1c⟩ := two_facts hx1
        obtain ⟨hx1f, hx1g⟩ := two_frozen hx1
        obtain ⟨hy2a, hy2b, hy2c⟩ := two_facts hy2
        obtain ⟨hy2f, hy2g⟩ := two_frozen hy2
        go_wp2_with fail
        refine (Q _).mono ?_; rintro e w3 ⟨rfl, hb3⟩
        have hbw3 := nx hbw2 hb3
        replace hx0 := heap_keep hb3 hx0
        replace hx1 := heap_keep hb3 hx1
        replace hy2 := heap_keep hb3 hy2
        clear hx0a hx0b hx0c hx0f hx0g
        obtain ⟨hx0a, hx0b, hx0c⟩ := two_facts hx0
        obtain ⟨hx0f, hx0g⟩ := two_frozen hx0
        clear hx1a hx1b hx1c hx1f hx1g
        obtain ⟨hx1a, hx1b, hx1c⟩ := two_facts hx1
        obtain ⟨hx1f, hx1g⟩ := two_frozen hx1
        clear hy2a hy2b hy2c hy2f hy2g
        obtain ⟨hy2a, hy2b, hy2c⟩ := two_facts hy2
        obtain ⟨hy2f, hy2g⟩ := two_frozen hy2
        clear hb3 hbw2
        go_wp2_with fail
        have hbw4 := nxAlloc hbw3 (.cells #[.string (red q).1.str, .string (red q).2.str] 25 (0, 0))
        replace hx0 := heap_keep (nxAlloc (Below.refl _ _) (.cells #[.string (red q).1.str, .string (red q).2.str] 25 (0, 0))) hx0
        replace hx1 := heap_keep (nxAlloc (Below.refl _ _) (.cells #[.string (red q).1.str, .string (red q).2.str] 25 (0, 0))) hx1
        replace hy2 := heap_keep (nxAlloc (Below.refl _ _) (.cells #[.string (red q).1.str, .string (red q).2.str] 25 (0, 0))) hy2
        have hy4 := heap_alloc_at w3 (.cells #[.string (red q).1.str, .string (red q).2.str] 25 (0, 0))
        generalize w3.alloc (.cells #[.string (red q).1.str, .string (red q).2.str] 25 (0, 0)) = w4 at *
        clear hbw3
        clear hx0a hx0b hx0c hx0f hx0g
        obtain ⟨hx0a, hx0b, hx0c⟩ := two_facts hx0
        obtain ⟨hx0f, hx0g⟩ := two_frozen hx0
        clear hx1a hx1b hx1c hx1f hx1g
        obtain ⟨hx1a, hx1b, hx1c⟩ := two_facts hx1
        obtain ⟨hx1f, hx1g⟩ := two_frozen hx1
        clear hy2a hy2b hy2c hy2f hy2g
        obtain ⟨hy2a, hy2b, hy2c⟩ := two_facts hy2
        obtain ⟨hy2f, hy2g⟩ := two_frozen hy2
        obtain ⟨hy4a, hy4b, hy4c⟩ := two_facts hy4
        obtain ⟨hy4f, hy4g⟩ := two_frozen hy4
        go_wp2_with fail
        go_ret2
        exact ⟨rfl, hbw4⟩

end Go.Proofs.YtjmbkieocmhmiaaGreat

/-! EqP -/
namespace Go.Proofs.YtjmbkieocmhmiaaGreat

theorem red_first0 {p : Pr} (hl : 0 < (both p).length) : red p = red (dropP p ((both p).getD 0 0)) := by
  cases h : both p with
  | nil => rw [h] at hl; simp at hl
  | cons n ns =>
    have := redBy_step h []
    exact this
theorem mem_nd {x y : Tr} {n : Int} (h : ¬ (x = .lf ∧ y = .lf)) : n ∈ (Tr.nd x y).exps 0 ↔ n ∈ x.exps 0 ∨ n - x.leaves ∈ y.exps 0 := by
  have hb : (x.isLf && y.isLf) = false := by
    rw [Bool.eq_false_iff]
    exact fun e => h (both_lf e)
  rw [Tr.exps, hb]
  simp only [Bool.false_eq_true, if_false, List.nil_append, List.mem_append, Int.zero_add]
  rw [exps_shift_mem y]
theorem exps_ne {x : Tr} {n : Int} (h : n ∈ x.exps 0) : x ≠ .lf := by
  intro e
  rw [e] at h
  simp [Tr.exps] at h
theorem mem_left {x y : Tr} {n : Int} (h : n ∈ x.exps 0) : n ∈ (Tr.nd x y).exps 0 := (mem_nd (fun e => exps_ne h e.1)).2 (.inl h)
theorem mem_right {x y : Tr} {n : Int} (h : n - x.leaves ∈ y.exps 0) : n ∈ (Tr.nd x y).exps 0 := (mem_nd (fun e => exps_ne h e.2)).2 (.inr h)
theorem drop_left {x y : Tr} {n : Int} (h : n ∈ x.exps 0) : (Tr.nd x y).dropAt n = .nd (x.dropAt n) y := by
  have hb : (x.isLf && y.isLf) = false := by
    rw [Bool.eq_false_iff]
    exact fun e => exps_ne h (both_lf e).1
  have := exps_range x 0 n h
  rw [Tr.dropAt, hb, if_neg (by simp), if_pos (by omega)]
theorem drop_right {x y : Tr} {n : Int} (h : n - x.leaves ∈ y.exps 0) : (Tr.nd x y).dropAt n = .nd x (y.dropAt (n - x.leaves)) := by
  have hb : (x.isLf && y.isLf) = false := by
    rw [Bool.eq_false_iff]
    exact fun e => exps_ne h (both_lf e).2
  have := exps_range y 0 _ h
  rw [Tr.dropAt, hb, if_neg (by simp), if_neg (by omega)]
theorem mem_cases {x y : Tr} {n : Int} (h : n ∈ (Tr.nd x y).exps 0) : (x = .lf ∧ y = .lf ∧ n = 0) ∨ n ∈ x.exps 0 ∨ n - x.leaves ∈ y.exps 0 := by
  by_cases e : x = .lf ∧ y = .lf
  · obtain ⟨rfl, rfl⟩ := e
    simp [Tr.exps, Tr.isLf] at h
    exact .inl ⟨rfl, rfl, h⟩
  · exact .inr ((mem_nd e).1 h)
theorem drop_leaves {t : Tr} {n : Int} (h : n ∈ t.exps 0) : ((t.dropAt n).leaves : Int) = t.leaves - 1 := by
  have := dropAt_carets t n h
  unfold Tr.leaves
  omega

/-- Two exposed carets are dropped in either order. -/
theorem drop_two (t : Tr) : ∀ n m : Int, n ∈ t.exps 0 → m ∈ t.exps 0 → n < m →
    n ∈ (t.dropAt m).exps 0 ∧ m - 1 ∈ (t.dropAt n).exps 0 ∧ (t.dropAt m).dropAt n = (t.dropAt n).dropAt (m - 1) := by
  induction t with
  | lf => intro n m h; simp [Tr.exps] at h
  | nd x y ihx ihy =>
    intro n m hn hm hlt
    rcases mem_cases hn with ⟨rfl, rfl, rfl⟩ | hn | hn
    · rcases mem_cases hm with ⟨_, _, rfl⟩ | hm | hm
      · omega
      · simp [Tr.exps] at hm
      · simp [Tr.exps] at hm
    · rcases mem_cases hm with ⟨rfl, _, _⟩ | hm | hm
      · exact absurd rfl (exps_ne hn)
      · obtain ⟨h1, h2, h3⟩ := ihx n m hn hm hlt
        rw [drop_left hm, drop_left hn, drop_left h1, drop_left h2, h3]
        exact ⟨mem_left h1, mem_left h2, rfl⟩
      · have hl := drop_leaves hn
        have hr : m - 1 - ((x.dropAt n).leaves : Int) = m - x.leaves := by omega
        rw [drop_right hm, drop_left hn, drop_left hn, drop_right (by rw [hr]; exact hm), hr]
        exact ⟨mem_left hn, mem_right (by rw [hr]; exact hm), rfl⟩
    · rcases mem_cases hm with ⟨_, rfl, _⟩ | hm | hm
      · exact absurd rfl (exps_ne hn)
      · have h1 := exps_range x 0 m hm
        have h2 := exps_range y 0 _ hn
        omega
      · obtain ⟨h1, h2, h3⟩ := ihy _ _ hn hm (by omega)
        have e : m - 1 - (x.leaves : Int) = m - x.leaves - 1 := by omega
        rw [drop_right hm, drop_right hn, drop_right h1, drop_right (by rw [e]; exact h2), e, h3]
        exact ⟨mem_right h1, mem_right (by rw [e]; exact h2), rfl⟩

theorem both_two {p : Pr} {n m : Int} (hn : n ∈ both p) (hm : m ∈ both p) (h : n < m) :
    n ∈ both (dropP p m) ∧ m - 1 ∈ both (dropP p n) ∧ dropP (dropP p m) n = dropP (dropP p n) (m - 1) := by
  rw [mem_both] at hn hm
  obtain ⟨a1, a2, a3⟩ := drop_two p.1 n m hn.1 hm.1 h
  obtain ⟨b1, b2, b3⟩ := drop_two p.2 n m hn.2 hm.2 h
  exact ⟨mem_both.2 ⟨a1, b1⟩, mem_both.2 ⟨a2, b2⟩, by unfold dropP; dsimp only; rw [a3, b3]⟩

/-- Whatever is dropped first, the same reduced pair is left. -/
theorem red_drop : ∀ (k : Nat) (p : Pr), p.1.carets = k → ∀ n, n ∈ both p → red (dropP p n) = red p := by
  intro k
  induction k using Nat.strongRecOn with
  | _ k ih =>
    intro p hk n hn
    have hl : 0 < (both p).length := List.length_pos_of_mem hn
    have h0 := red_first0 hl
    have hm : (both p).getD 0 0 ∈ both p := by
      cases hb : both p with
      | nil => rw [hb] at hl; simp at hl
      | cons a l => simp
    generalize (both p).getD 0 0 = m at h0 hm
    rw [h0]
    have c1 := dropP_carets hn
    have c2 := dropP_carets hm
    rcases Int.lt_trichotomy n m with h | h | h
    · obtain ⟨h1, h2, h3⟩ := both_two hn hm h
      rw [← ih (dropP p m).1.carets (by omega) _ rfl n h1, ← ih (dropP p n).1.carets (by omega) _ rfl (m - 1) h2, h3]
    · rw [h]
    · obtain ⟨h1, h2, h3⟩ := both_two hm hn h
      rw [← ih (dropP p n).1.carets (by omega) _ rfl m h1, ← ih (dropP p m).1.carets (by omega) _ rfl (n - 1) h2, h3]

theorem fillR_app (t : Tr) : ∀ us vs : List Tr, us.length = t.leaves → t.fillR (us ++ vs) = (t.fill us, vs) := by
  induction t with
  | lf =>
    intro us vs h
    match us, h with
    | [u], _ => rfl
    | [], h => simp [Tr.leaves] at h
    | _ :: _ :: _, h => simp [Tr.leaves, Tr.carets] at h
  | nd l r ihl ihr =>
    intro us vs h
    rw [leaves_nd] at h
    have hA : (us.take l.leaves).length = l.leaves := by rw [List.length_take]; omega
    have hB : (us.drop l.leaves).length = r.leaves := by rw [List.length_drop]; omega
    have e := List.take_append_drop l.leaves us
    generalize us.take l.leaves = A at *
    generalize us.drop l.leaves = B at *
    subst e
    have h1 := ihl A (B ++ vs) hA
    have h2 := ihr B vs hB
    have h3 := ihl A B hA
    have h4 := ihr B [] hB
    rw [List.append_nil] at h4
    have e : Tr.fill (.nd l r) (A ++ B) = .nd (l.fill A) (r.fill B) := by
      show Tr.nd (l.fillR (A ++ B)).1 (r.fillR (l.fillR (A ++ B)).2).1 = _
      rw [h3, h4]
    rw [e, Tr.fillR, List.append_assoc, h1, h2]
theorem fill_nd {l r : Tr} {A B : List Tr} (hA : A.length = l.leaves) (hB : B.length = r.leaves) : Tr.fill (.nd l r) (A ++ B) = .nd (l.fill A) (r.fill B) := by
  have h3 := fillR_app l A B hA
  have h4 := fillR_app r B [] hB
  rw [List.append_nil] at h4
  show Tr.nd (l.fillR (A ++ B)).1 (r.fillR (l.fillR (A ++ B)).2).1 = _
  rw [h3, h4]
theorem fill_lf (u : Tr) : Tr.fill .lf [u] = u := rfl
/-- Leaves of a list of trees. -/
def sumL (us : List Tr) : Nat := (us.map Tr.leaves).sum
theorem sumL_cons (u : Tr) (us : List Tr) : sumL (u :: us) = u.leaves + sumL us := by simp [sumL]
theorem sumL_append (us vs : List Tr) : sumL (us ++ vs) = sumL us + sumL vs := by simp [sumL]
theorem sumL_eq (us : List Tr) : sumL us = sumC us + us.length := by
  induction us with
  | nil => rfl
  | cons u us ih => rw [sumL_cons, sumC_cons, ih, List.length_cons]; unfold Tr.leaves; omega
theorem fill_leaves {t : Tr} {us : List Tr} (h : us.length = t.leaves) : (t.fill us).leaves = sumL us := by
  rw [sumL_eq, h]
  unfold Tr.leaves
  rw [fill_carets t us h]
  omega
/-- The list of a caret's leaves, parted. -/
theorem partsT {l r : Tr} {us : List Tr} (h : us.length = (Tr.nd l r).leaves) : ∃ A B, us = A ++ B ∧ A.length = l.leaves ∧ B.length = r.leaves := by
  rw [leaves_nd] at h
  exact ⟨us.take l.leaves, us.drop l.leaves, (List.take_append_drop _ _).symm, by rw [List.length_take]; omega, by rw [List.length_drop]; omega⟩

/-- An exposed caret that was filled in. -/
theorem fill_drop (t : Tr) : ∀ (ps : List Tr) (u : Tr) (bs : List Tr) (m : Int), (ps ++ u :: bs).length = t.leaves → m ∈ u.exps 0 →
    ((sumL ps : Int) + m) ∈ (t.fill (ps ++ u :: bs)).exps 0 ∧ (t.fill (ps ++ u :: bs)).dropAt ((sumL ps : Int) + m) = t.fill (ps ++ u.dropAt m :: bs) := by
  induction t with
  | lf =>
    intro ps u bs m h hm
    match ps, bs, h with
    | [], [], _ =>
      have e : ((sumL [] : Nat) : Int) + m = m := by simp [sumL]
      rw [e]
      exact ⟨hm, rfl⟩
    | [], _ :: _, h => simp [Tr.leaves, Tr.carets] at h
    | _ :: _, _, h => simp [Tr.leaves, Tr.carets] at h
  | nd l r ihl ihr =>
    intro ps u bs m h hm
    rw [leaves_nd, List.length_append, List.length_cons] at h
    by_cases hlt : ps.length < l.leaves
    · have hb1 : (bs.take (l.leaves - ps.length - 1)).length = l.leaves - ps.length - 1 := by rw [List.length_take]; omega
      have hb2 : (bs.drop (l.leaves - ps.length - 1)).length = r.leaves := by rw [List.length_drop]; omega
      have e := List.take_append_drop (l.leaves - ps.length - 1) bs
      generalize bs.take (l.leaves - ps.length - 1) = b1 at *
      generalize bs.drop (l.leaves - ps.length - 1) = b2 at *
      subst e
      have hA : ∀ v : Tr, (ps ++ v :: b1).length = l.leaves := by intro v; rw [List.length_append, List.length_cons]; omega
      have ee : ∀ v : Tr, ps ++ v :: (b1 ++ b2) = (ps ++ v :: b1) ++ b2 := by intro v; simp
      obtain ⟨h1, h2⟩ := ihl ps u b1 m (hA u) hm
      rw [ee, ee, fill_nd (hA _) hb2, fill_nd (hA _) hb2, drop_left h1, h2]
      exact ⟨mem_left h1, rfl⟩
    · have ha1 : (ps.take l.leaves).length = l.leaves := by rw [List.length_take]; omega
      have ha2 : (ps.drop l.leaves).length + l.leaves = ps.length := by rw [List.length_drop]; omega
      have e := List.take_append_drop l.leaves ps
      generalize ps.take l.leaves = a1 at *
      generalize ps.drop l.leaves = a2 at *
      subst e
      have hB : ∀ v : Tr, (a2 ++ v :: bs).length = r.leaves := by intro v; rw [List.length_append, List.length_cons]; omega
      have ee : ∀ v : Tr, a1 ++ a2 ++ v :: bs = a1 ++ (a2 ++ v :: bs) := by intro v; simp
      obtain ⟨h1, h2⟩ := ihr a2 u bs m (hB u) hm
      have hl := fill_leaves ha1
      have es : ((sumL (a1 ++ a2) : Nat) : Int) + m - ((l.fill a1).leaves : Int) = (sumL a2 : Int) + m := by rw [sumL_append, hl]; omega
      rw [ee, ee, fill_nd ha1 (hB _), fill_nd ha1 (hB _), drop_right (by rw [es]; exact h1), es, h2]
      exact ⟨mem_right (by rw [es]; exact h1), rfl⟩

theorem ex_exps (t : Tr) : 0 < t.carets → ∃ m, m ∈ t.exps 0 := by
  induction t with
  | lf => intro h; simp [Tr.carets] at h
  | nd x y ihx ihy =>
    intro _
    by_cases hx : 0 < x.carets
    · obtain ⟨m, hm⟩ := ihx hx
      exact ⟨m, mem_left hm⟩
    · by_cases hy : 0 < y.carets
      · obtain ⟨m, hm⟩ := ihy hy
        exact ⟨m + x.leaves, mem_right (by rw [show m + (x.leaves : Int) - x.leaves = m by omega]; exact hm)⟩
      · have e1 : x = .lf := by cases x with
          | lf => rfl
          | nd _ _ => simp [Tr.carets] at hx
        have e2 : y = .lf := by cases y with
          | lf => rfl
          | nd _ _ => simp [Tr.carets] at hy
        subst e1; subst e2
        exact ⟨0, by simp [Tr.exps, Tr.isLf]⟩
theorem fill_lfs (t : Tr) : t.fill (List.replicate t.leaves .lf) = t := by
  induction t with
  | lf => rfl
  | nd l r ihl ihr => rw [leaves_nd, ← List.replicate_append_replicate, fill_nd (by simp) (by simp), ihl, ihr]
theorem all_lf (us : List Tr) (h : sumC us = 0) : us = List.replicate us.length .lf := by
  induction us with
  | nil => rfl
  | cons u us ih =>
    rw [sumC_cons] at h
    rw [List.length_cons, List.replicate_succ, ← ih (by omega)]
    cases u with
    | lf => rfl
    | nd _ _ => simp [Tr.carets] at h
theorem ex_caret (us : List Tr) : 0 < sumC us → ∃ ps u bs, us = ps ++ u :: bs ∧ 0 < u.carets := by
  induction us with
  | nil => intro h; simp [sumC] at h
  | cons u us ih =>
    intro h
    by_cases hu : 0 < u.carets
    · exact ⟨[], u, us, rfl, hu⟩
    · rw [sumC_cons] at h
      obtain ⟨ps, v, bs, rfl, hv⟩ := ih (by omega)
      exact ⟨u :: ps, v, bs, rfl, hv⟩
/-- A pair with trees at its leaves. -/
def expE (p : Pr) (us : List Tr) : Pr := (p.1.fill us, p.2.fill us)
theorem red_expE {p : Pr} (hp : okP p) : ∀ (k : Nat) (us : List Tr), sumC us = k → us.length = p.1.leaves → red (expE p us) = red p := by
  have hq : p.1.leaves = p.2.leaves := by unfold okP at hp; unfold Tr.leaves; omega
  intro k
  induction k with
  | zero =>
    intro us h hl
    have e := all_lf us h
    rw [hl] at e
    have : expE p us = p := by
      unfold expE
      rw [e, fill_lfs, hq, fill_lfs]
    rw [this]
  | succ k ih =>
    intro us h hl
    obtain ⟨ps, u, bs, rfl, hu⟩ := ex_caret us (by omega)
    obtain ⟨m, hm⟩ := ex_exps u hu
    obtain ⟨a1, a2⟩ := fill_drop p.1 ps u bs m hl hm
    obtain ⟨b1, b2⟩ := fill_drop p.2 ps u bs m (by omega) hm
    have hb : ((sumL ps : Int) + m) ∈ both (expE p (ps ++ u :: bs)) := mem_both.2 ⟨a1, b1⟩
    have hd : dropP (expE p (ps ++ u :: bs)) ((sumL ps : Int) + m) = expE p (ps ++ u.dropAt m :: bs) := by
      unfold dropP expE
      dsimp only
      rw [a2, b2]
    have hc := dropAt_carets u m hm
    rw [← red_drop _ _ rfl _ hb, hd]
    refine ih _ ?_ ?_
    · rw [sumC_append, sumC_cons] at h ⊢; omega
    · rw [← hl]; simp

/-- Trees with trees at their leaves. -/
def compT : List Tr → List Tr → List Tr
  | [], _ => []
  | u :: us, vs => u.fill (vs.take u.leaves) :: compT us (vs.drop u.leaves)
theorem compT_length (us : List Tr) : ∀ vs, (compT us vs).length = us.length := by
  induction us with
  | nil => intro vs; rfl
  | cons u us ih => intro vs; simp [compT, ih]
theorem compT_append (A : List Tr) : ∀ (B V W : List Tr), V.length = sumL A → compT (A ++ B) (V ++ W) = compT A V ++ compT B W := by
  induction A with
  | nil => intro B V W h; obtain rfl : V = [] := List.length_eq_zero_iff.1 (by simpa [sumL] using h); rfl
  | cons u A ih =>
    intro B V W h
    rw [sumL_cons] at h
    rw [List.cons_append, compT, compT, List.take_append_of_le_length (by omega), List.drop_append_of_le_length (by omega), ih _ _ _ (by rw [List.length_drop]; omega)]
    rfl
theorem fill_comp (t : Tr) : ∀ us vs : List Tr, us.length = t.leaves → vs.length = sumL us → t.fill (compT us vs) = (t.fill us).fill vs := by
  induction t with
  | lf =>
    intro us vs h hv
    match us, h with
    | [u], _ =>
      simp [sumL] at hv
      show Tr.fill .lf [u.fill (vs.take u.leaves)] = u.fill vs
      rw [fill_lf, List.take_of_length_le (by omega)]
    | [], h => simp [Tr.leaves] at h
    | _ :: _ :: _, h => simp [Tr.leaves, Tr.carets] at h
  | nd l r ihl ihr =>
    intro us vs h hv
    obtain ⟨A, B, rfl, hA, hB⟩ := partsT h
    rw [sumL_append] at hv
    have hV : (vs.take (sumL A)).length = sumL A := by rw [List.length_take]; omega
    have hW : (vs.drop (sumL A)).length = sumL B := by rw [List.length_drop]; omega
    have e := List.take_append_drop (sumL A) vs
    generalize vs.take (sumL A) = V at *
    generalize vs.drop (sumL A) = W at *
    subst e
    rw [compT_append _ _ _ _ hV, fill_nd (by rw [compT_length, hA]) (by rw [compT_length, hB]), fill_nd hA hB, fill_nd (by rw [hV, fill_leaves hA]) (by rw [hW, fill_leaves hB]), ihl A V hA hV, ihr B W hB hW]
theorem fill_subs (a : Tr) : ∀ g : Tr, a.part g = true → a.fill (a.subs g) = g := by
  induction a with
  | lf => intro g h; rfl
  | nd l r ihl ihr =>
    intro g h
    cases g with
    | lf => simp [Tr.part] at h
    | nd p q =>
      simp [Tr.part] at h
      rw [Tr.subs, fill_nd (below_carets l p h.1).2 (below_carets r q h.2).2, ihl p h.1, ihr q h.2]
theorem subs_fill (a : Tr) : ∀ us : List Tr, us.length = a.leaves → a.part (a.fill us) = true ∧ a.subs (a.fill us) = us := by
  induction a with
  | lf =>
    intro us h
    match us, h with
    | [u], _ => exact ⟨rfl, rfl⟩
    | [], h => simp [Tr.leaves] at h
    | _ :: _ :: _, h => simp [Tr.leaves, Tr.carets] at h
  | nd l r ihl ihr =>
    intro us h
    obtain ⟨A, B, rfl, hA, hB⟩ := partsT h
    rw [fill_nd hA hB]
    have h1 := ihl A hA
    have h2 := ihr B hB
    exact ⟨by simp [Tr.part, h1.1, h2.1], by rw [Tr.subs, h1.2, h2.2]⟩
theorem join_least (a : Tr) : ∀ b g : Tr, a.part g = true → b.part g = true → (a.join b).part g = true := by
  induction a with
  | lf => intro b g h k; exact k
  | nd l r ihl ihr =>
    intro b g h k
    cases b with
    | lf => exact h
    | nd p q =>
      cases g with
      | lf => simp [Tr.part] at h
      | nd x y =>
        simp [Tr.part] at h k
        simp [Tr.join, Tr.part, ihl p x h.1 k.1, ihr q y h.2 k.2]
theorem okP_leaves {p : Pr} (hp : okP p) : p.1.leaves = p.2.leaves := by unfold okP at hp; unfold Tr.leaves; omega
/-- The product by any tree in the middle. -/
theorem mulP_any {p q : Pr} (hp : okP p) (hq : okP q) {S T : List Tr} (hS : S.length = p.2.leaves) (hT : T.length = q.1.leaves) (h : p.2.fill S = q.1.fill T) :
    red (p.1.fill S, q.2.fill T) = mulP p q := by
  have hJ : (p.2.join q.1).part (p.2.fill S) = true := join_least _ _ _ (subs_fill p.2 S hS).1 (by rw [h]; exact (subs_fill q.1 T hT).1)
  have hU := below_carets _ _ hJ
  have hg := fill_subs _ _ hJ
  generalize (p.2.join q.1).subs (p.2.fill S) = U at hU hg
  have s1 := below_carets p.2 _ (part_join p.2 q.1)
  have s2 := below_carets q.1 _ (part_join' p.2 q.1)
  have f1 := fill_subs p.2 _ (part_join p.2 q.1)
  have f2 := fill_subs q.1 _ (part_join' p.2 q.1)
  have o1 := okP_leaves hp
  have o2 := okP_leaves hq
  have l1 : sumL (p.2.subs (p.2.join q.1)) = (p.2.join q.1).leaves := by rw [← fill_leaves s1.2, f1]
  have l2 : sumL (q.1.subs (p.2.join q.1)) = (p.2.join q.1).leaves := by rw [← fill_leaves s2.2, f2]
  unfold mulP
  have hr : rawP p q = (p.1.fill (p.2.subs (p.2.join q.1)), q.2.fill (q.1.subs (p.2.join q.1))) := rfl
  have c1 : compT (p.2.subs (p.2.join q.1)) U = S := by
    rw [← (subs_fill p.2 S hS).2, ← hg, ← (subs_fill p.2 (compT (p.2.subs (p.2.join q.1)) U) (by rw [compT_length, s1.2])).2, fill_comp _ _ _ s1.2 (by rw [hU.2, l1]), f1]
  have c2 : compT (q.1.subs (p.2.join q.1)) U = T := by
    rw [← (subs_fill q.1 T hT).2, ← h, ← hg, ← (subs_fill q.1 (compT (q.1.subs (p.2.join q.1)) U) (by rw [compT_length, s2.2])).2, fill_comp _ _ _ s2.2 (by rw [hU.2, l2]), f2]
  have e : (p.1.fill S, q.2.fill T) = expE (rawP p q) U := by
    rw [hr, ← c1, ← c2]
    unfold expE
    dsimp only
    rw [fill_comp _ _ _ (by rw [s1.2, o1]) (by rw [hU.2, l1]), fill_comp _ _ _ (by rw [s2.2, o2]) (by rw [hU.2, l2])]
  have hok : okP (rawP p q) := by
    have k1 := fill_leaves (t := p.1) (us := p.2.subs (p.2.join q.1)) (by rw [s1.2, o1])
    have k2 := fill_leaves (t := q.2) (us := q.1.subs (p.2.join q.1)) (by rw [s2.2, o2])
    rw [hr]
    unfold okP
    dsimp only
    rw [l1] at k1
    rw [l2] at k2
    unfold Tr.leaves at k1 k2
    omega
  rw [e]
  refine red_expE hok _ U rfl ?_
  rw [hU.2, hr]
  dsimp only
  rw [fill_leaves (by rw [s1.2, o1]), l1]

theorem expE_ok {p : Pr} (hp : okP p) {V : List Tr} (hV : V.length = p.1.leaves) : okP (expE p V) := by
  have o1 := okP_leaves hp
  have k1 := fill_leaves (t := p.1) (us := V) hV
  have k2 := fill_leaves (t := p.2) (us := V) (by omega)
  unfold okP expE
  dsimp only
  unfold Tr.leaves at k1 k2
  omega
theorem mulP_expL {p q : Pr} (hp : okP p) (hq : okP q) {V : List Tr} (hV : V.length = p.1.leaves) : mulP (expE p V) q = mulP p q := by
  have o1 := okP_leaves hp
  have s1 := below_carets (expE p V).2 _ (part_join (expE p V).2 q.1)
  have s2 := below_carets q.1 _ (part_join' (expE p V).2 q.1)
  have f1 := fill_subs (expE p V).2 _ (part_join (expE p V).2 q.1)
  have f2 := fill_subs q.1 _ (part_join' (expE p V).2 q.1)
  have hl : (expE p V).2.leaves = sumL V := fill_leaves (by omega)
  unfold mulP
  have hr : rawP (expE p V) q = ((expE p V).1.fill ((expE p V).2.subs ((expE p V).2.join q.1)), q.2.fill (q.1.subs ((expE p V).2.join q.1))) := rfl
  generalize (expE p V).2.subs ((expE p V).2.join q.1) = S at *
  generalize q.1.subs ((expE p V).2.join q.1) = T at *
  have e1 : (expE p V).1.fill S = p.1.fill (compT V S) := (fill_comp _ _ _ hV (by rw [s1.2, hl])).symm
  have e2 : (expE p V).2.fill S = p.2.fill (compT V S) := (fill_comp _ _ _ (by omega) (by rw [s1.2, hl])).symm
  rw [hr, e1]
  exact mulP_any hp hq (by rw [compT_length]; omega) s2.2 (by rw [← e2, f1, f2])
theorem mulP_expR {p q : Pr} (hp : okP p) (hq : okP q) {V : List Tr} (hV : V.length = q.1.leaves) : mulP p (expE q V) = mulP p q := by
  have o1 := okP_leaves hq
  have s1 := below_carets p.2 _ (part_join p.2 (expE q V).1)
  have s2 := below_carets (expE q V).1 _ (part_join' p.2 (expE q V).1)
  have f1 := fill_subs p.2 _ (part_join p.2 (expE q V).1)
  have f2 := fill_subs (expE q V).1 _ (part_join' p.2 (expE q V).1)
  have hl : (expE q V).1.leaves = sumL V := fill_leaves hV
  unfold mulP
  have hr : rawP p (expE q V) = (p.1.fill (p.2.subs (p.2.join (expE q V).1)), (expE q V).2.fill ((expE q V).1.subs (p.2.join (expE q V).1))) := rfl
  generalize p.2.subs (p.2.join (expE q V).1) = S at *
  generalize (expE q V).1.subs (p.2.join (expE q V).1) = T at *
  have e1 : (expE q V).1.fill T = q.1.fill (compT V T) := (fill_comp _ _ _ hV (by rw [s2.2, hl])).symm
  have e2 : (expE q V).2.fill T = q.2.fill (compT V T) := (fill_comp _ _ _ (by omega) (by rw [s2.2, hl])).symm
  rw [hr, e2]
  exact mulP_any hp hq s1.2 (by rw [compT_length]; omega) (by rw [← e1, f1, f2])

/-- So many leaves, but for a caret at one of them. -/
def bump (k n : Nat) : List Tr := List.replicate n .lf ++ .nd .lf .lf :: List.replicate (k - n - 1) .lf
theorem bump_length {k n : Nat} (h : n < k) : (bump k n).length = k := by simp [bump]; omega
theorem drop_fill (t : Tr) : ∀ n : Int, n ∈ t.exps 0 → (t.dropAt n).fill (bump (t.dropAt n).leaves n.toNat) = t := by
  induction t with
  | lf => intro n h; simp [Tr.exps] at h
  | nd x y ihx ihy =>
    intro n hn
    have hrg := exps_range _ 0 n hn
    rcases mem_cases hn with ⟨rfl, rfl, rfl⟩ | hn | hn
    · rfl
    · have h1 := exps_range x 0 n hn
      have hl := drop_leaves hn
      rw [drop_left hn]
      have e : bump (Tr.nd (x.dropAt n) y).leaves n.toNat = bump (x.dropAt n).leaves n.toNat ++ List.replicate y.leaves .lf := by
        rw [leaves_nd]
        unfold bump
        rw [List.append_assoc, List.cons_append, List.replicate_append_replicate]
        congr 3
        omega
      rw [e, fill_nd (bump_length (by omega)) (by simp), ihx n hn, fill_lfs]
    · have h1 := exps_range y 0 _ hn
      have hl := drop_leaves hn
      rw [drop_right hn]
      have e : bump (Tr.nd x (y.dropAt (n - x.leaves))).leaves n.toNat = List.replicate x.leaves .lf ++ bump (y.dropAt (n - x.leaves)).leaves (n - x.leaves).toNat := by
        rw [leaves_nd]
        unfold bump
        rw [← List.append_assoc, List.replicate_append_replicate]
        congr 3 <;> omega
      rw [e, fill_nd (by simp) (bump_length (by omega)), ihy _ hn, fill_lfs]
theorem drop_exp {p : Pr} (hp : okP p) {n : Int} (h : n ∈ both p) : okP (dropP p n) ∧ ∃ V, V.length = (dropP p n).1.leaves ∧ expE (dropP p n) V = p := by
  have hc := dropP_carets h
  have ho : okP (dropP p n) := by unfold okP at *; omega
  obtain ⟨h1, h2⟩ := mem_both.1 h
  have r1 := exps_range p.1 0 n h1
  have l1 := drop_leaves h1
  refine ⟨ho, bump (dropP p n).1.leaves n.toNat, bump_length (by show n.toNat < (p.1.dropAt n).leaves; omega), ?_⟩
  unfold expE
  rw [show (dropP p n).1.fill (bump (dropP p n).1.leaves n.toNat) = p.1 from drop_fill p.1 n h1, okP_leaves ho, show (dropP p n).2.fill (bump (dropP p n).2.leaves n.toNat) = p.2 from drop_fill p.2 n h2]
/-- A pair is made by the reduced one with trees at its leaves. -/
theorem red_exp : ∀ (k : Nat) (p : Pr), p.1.carets = k → okP p → okP (red p) ∧ ∃ V, V.length = (red p).1.leaves ∧ expE (red p) V = p := by
  intro k
  induction k using Nat.strongRecOn with
  | _ k ih =>
    intro p hk hp
    by_cases hl : 0 < (both p).length
    · have h0 := red_first0 hl
      have hm : (both p).getD 0 0 ∈ both p := by
        cases hb : both p with
        | nil => rw [hb] at hl; simp at hl
        | cons a l => simp
      generalize (both p).getD 0 0 = m at h0 hm
      have c2 := dropP_carets hm
      obtain ⟨ho, V, hV, hE⟩ := drop_exp hp hm
      obtain ⟨hr, U, hU, hF⟩ := ih (dropP p m).1.carets (by omega) _ rfl ho
      rw [h0]
      have hUl : sumL U = (dropP p m).1.leaves := by rw [← fill_leaves hU]; exact congrArg (fun x : Pr => x.1.leaves) hF
      refine ⟨hr, compT U V, by rw [compT_length, hU], ?_⟩
      have o1 := okP_leaves hr
      have g1 := fill_comp (red (dropP p m)).1 U V hU (by rw [hV, hUl])
      have g2 := fill_comp (red (dropP p m)).2 U V (by omega) (by rw [hV, hUl])
      unfold expE
      rw [g1, g2]
      rw [show (red (dropP p m)).1.fill U = (dropP p m).1 from congrArg Prod.fst hF, show (red (dropP p m)).2.fill U = (dropP p m).2 from congrArg Prod.snd hF]
      exact hE
    · have hb : both p = [] := List.length_eq_zero_iff.1 (by omega)
      have hr := (red_self p).2 hb
      rw [hr]
      have o1 := okP_leaves hp
      refine ⟨hp, List.replicate p.1.leaves .lf, by simp, ?_⟩
      unfold expE
      rw [fill_lfs, o1, fill_lfs]
theorem mulP_redL {p q : Pr} (hp : okP p) (hq : okP q) : mulP (red p) q = mulP p q := by
  obtain ⟨hr, V, hV, hE⟩ := red_exp _ p rfl hp
  have := mulP_expL hr hq hV
  rw [hE] at this
  exact this.symm
theorem mulP_redR {p q : Pr} (hp : okP p) (hq : okP q) : mulP p (red q) = mulP p q := by
  obtain ⟨hr, V, hV, hE⟩ := red_exp _ q rfl hq
  have := mulP_expR hp hr hV
  rw [hE] at this
  exact this.symm
end Go.Proofs.YtjmbkieocmhmiaaGreat

/-! CjP -/
namespace Go.Proofs.YtjmbkieocmhmiaaGreat

theorem red_inv : ∀ (k : Nat) (p : Pr), p.1.carets = k → red (invP p) = invP (red p) := by
  intro k
  induction k using Nat.strongRecOn with
  | _ k ih =>
    intro p hk
    by_cases hl : 0 < (both p).length
    · have h0 := red_first0 hl
      have hm : (both p).getD 0 0 ∈ both p := by
        cases hb : both p with
        | nil => rw [hb] at hl; simp at hl
        | cons a l => simp
      generalize (both p).getD 0 0 = m at h0 hm
      have c2 := dropP_carets hm
      have hm' : m ∈ both (invP p) := mem_both.2 ⟨(mem_both.1 hm).2, (mem_both.1 hm).1⟩
      have e1 := red_drop _ (invP p) rfl m hm'
      have e2 := ih (dropP p m).1.carets (by omega) (dropP p m) rfl
      rw [h0, ← e2, ← e1]
      rfl
    · have hb : both p = [] := List.length_eq_zero_iff.1 (by omega)
      have hb' : both (invP p) = [] := by
        cases h : both (invP p) with
        | nil => rfl
        | cons a l =>
          have ha : a ∈ both (invP p) := by rw [h]; simp
          have : a ∈ both p := mem_both.2 ⟨(mem_both.1 ha).2, (mem_both.1 ha).1⟩
          rw [hb] at this; simp at this
      rw [(red_self p).2 hb, (red_self (invP p)).2 hb']
theorem raw_inv (p q : Pr) : rawP (invP q) (invP p) = invP (rawP p q) := by
  unfold rawP invP
  dsimp only
  rw [join_comm q.1 p.2]
theorem inv_mul (p q : Pr) : invP (mulP p q) = mulP (invP q) (invP p) := by
  unfold mulP
  rw [raw_inv, red_inv _ _ rfl]
theorem inv_ok {p : Pr} (h : okP p) : okP (invP p) := h.symm
theorem mul_assoc {p q r : Pr} (hp : okP p) (hq : okP q) (hr : okP r) : mulP (mulP p q) r = mulP p (mulP q r) := by
  have s1 := below_carets p.2 _ (part_join p.2 q.1)
  have s2 := below_carets q.1 _ (part_join' p.2 q.1)
  have f1 := fill_subs p.2 _ (part_join p.2 q.1)
  have f2 := fill_subs q.1 _ (part_join' p.2 q.1)
  have o1 := okP_leaves hp
  have o2 := okP_leaves hq
  have o3 := okP_leaves hr
  have hraw := rawP_ok hp hq
  have eR : rawP p q = (p.1.fill (p.2.subs (p.2.join q.1)), q.2.fill (q.1.subs (p.2.join q.1))) := rfl
  have l1 : sumL (p.2.subs (p.2.join q.1)) = (p.2.join q.1).leaves := by rw [← fill_leaves s1.2, f1]
  have l2 : sumL (q.1.subs (p.2.join q.1)) = (p.2.join q.1).leaves := by rw [← fill_leaves s2.2, f2]
  rw [show mulP p q = red (rawP p q) from rfl, mulP_redL hraw hr]
  generalize p.2.subs (p.2.join q.1) = S at *
  generalize q.1.subs (p.2.join q.1) = T at *
  generalize p.2.join q.1 = M at *
  have k1 : (p.1.fill S).leaves = M.leaves := by rw [fill_leaves (by rw [s1.2, o1]), l1]
  have k2 : (q.2.fill T).leaves = M.leaves := by rw [fill_leaves (by rw [s2.2, o2]), l2]
  have t1 := below_carets (q.2.fill T) _ (part_join (q.2.fill T) r.1)
  have t2 := below_carets r.1 _ (part_join' (q.2.fill T) r.1)
  have g1 := fill_subs (q.2.fill T) _ (part_join (q.2.fill T) r.1)
  have g2 := fill_subs r.1 _ (part_join' (q.2.fill T) r.1)
  generalize (q.2.fill T).subs ((q.2.fill T).join r.1) = U at *
  generalize r.1.subs ((q.2.fill T).join r.1) = V at *
  have n1 : sumL U = ((q.2.fill T).join r.1).leaves := by rw [← fill_leaves t1.2, g1]
  have n2 : sumL V = ((q.2.fill T).join r.1).leaves := by rw [← fill_leaves t2.2, g2]
  generalize (q.2.fill T).join r.1 = N at *
  have c1 := fill_comp p.1 S U (by rw [s1.2, o1]) (by rw [t1.2, k2, l1])
  have c2 := fill_comp p.2 S U s1.2 (by rw [t1.2, k2, l1])
  have c3 := fill_comp q.1 T U s2.2 (by rw [t1.2, k2, l2])
  have c4 := fill_comp q.2 T U (by rw [s2.2, o2]) (by rw [t1.2, k2, l2])
  have e1 := mulP_any (p := rawP p q) (q := r) hraw hr (S := U) (T := V) (by rw [eR]; exact t1.2) t2.2 (by rw [eR]; exact g1.trans g2.symm)
  have e2 := mulP_any hq hr (S := compT T U) (T := V) (by rw [compT_length, s2.2, o2]) t2.2 (by rw [c4]; exact g1.trans g2.symm)
  have hX : okP (q.1.fill (compT T U), r.2.fill V) := by
    have a1 := fill_leaves (t := q.1) (us := compT T U) (by rw [compT_length, s2.2])
    have a2 := fill_leaves (t := q.2) (us := compT T U) (by rw [compT_length, s2.2, o2])
    have a3 := fill_leaves (t := r.2) (us := V) (by rw [t2.2, o3])
    rw [c4, g1] at a2
    unfold okP
    dsimp only
    unfold Tr.leaves at *
    omega
  rw [← e2, mulP_redR hp hX, ← e1, eR]
  dsimp only
  have e3 := mulP_any hp hX (S := compT S U) (T := List.replicate (q.1.fill (compT T U)).leaves .lf) (by rw [compT_length, s1.2]) (by simp) (by rw [fill_lfs, c2, c3, f1, f2])
  rw [← e3, c1]
  dsimp only
  congr 2
  have : (q.1.fill (compT T U)).leaves = (r.2.fill V).leaves := okP_leaves hX
  rw [this, fill_lfs]

def idP : Pr := (.lf, .lf)
theorem id_ok : okP idP := rfl
theorem lf_both : both ((.lf, .lf) : Pr) = [] := rfl
theorem red_id : red idP = idP := (red_self _).2 rfl
theorem red_same (t : Tr) : red (t, t) = idP := by
  have h : expE idP [t] = (t, t) := rfl
  rw [← h, red_expE id_ok _ [t] rfl rfl, red_id]
theorem subs_lf (a : Tr) : a.subs a = List.replicate a.leaves .lf := by
  have h := subs_fill a (List.replicate a.leaves .lf) (by simp)
  rw [fill_lfs] at h
  exact h.2
theorem join_self (a : Tr) : a.join a = a := by
  induction a with
  | lf => rfl
  | nd x y ihx ihy => simp [Tr.join, ihx, ihy]
theorem mul_inv {p : Pr} (hp : okP p) : mulP p (invP p) = idP := by
  have e : rawP p (invP p) = (p.1, p.1) := by
    have o := okP_leaves hp
    unfold rawP invP
    dsimp only
    rw [join_self, subs_lf, ← o, fill_lfs]
  unfold mulP
  rw [e, red_same]
theorem join_lf' (t : Tr) : t.join .lf = t := by cases t <;> rfl
theorem mul_id {p : Pr} (hp : okP p) : mulP p idP = red p := by
  have e : rawP p idP = p := by
    have o := okP_leaves hp
    show (p.1.fill (p.2.subs (p.2.join .lf)), Tr.fill .lf (Tr.subs .lf (p.2.join .lf))) = p
    rw [join_lf', subs_lf, ← o, fill_lfs]
    rfl
  unfold mulP
  rw [e]
theorem id_mul {p : Pr} (hp : okP p) : mulP idP p = red p := by
  have h := mul_id (inv_ok hp)
  have h2 := inv_mul (invP p) idP
  have h3 : invP (invP p) = p := rfl
  have h4 : invP idP = idP := rfl
  rw [h3, h4] at h2
  rw [← h2, h, red_inv _ p rfl]
  rfl
theorem red_red (p : Pr) : red (red p) = red p := (red_self _).2 (red_both p [])
theorem mul_red (p q : Pr) : red (mulP p q) = mulP p q := red_red _

/-- The conjugate of p by q. -/
def conP (p q : Pr) : Pr := mulP (mulP (invP q) p) q
theorem conP_ok {p q : Pr} (hp : okP p) (hq : okP q) : okP (conP p q) := mulP_ok (mulP_ok (inv_ok hq) hp) hq
theorem conP_carets {p q : Pr} (hp : okP p) (hq : okP q) : (conP p q).1.carets ≤ q.1.carets + p.1.carets + q.1.carets := by
  have h1 := mulP_carets (inv_ok hq) hp
  have h2 := mulP_carets (mulP_ok (inv_ok hq) hp) hq
  have h3 : (mulP (invP q) p).1.carets = (mulP (invP q) p).2.carets := mulP_ok (inv_ok hq) hp
  have h4 : (invP q).2.carets = q.1.carets := rfl
  unfold conP
  omega
theorem conP_red {p q : Pr} (hp : okP p) (hq : okP q) : conP (red p) q = conP p q := by
  unfold conP
  rw [mulP_redR (inv_ok hq) hp]
theorem con_con {p a b : Pr} (hp : okP p) (ha : okP a) (hb : okP b) : conP (conP p a) b = conP p (mulP a b) := by
  unfold conP
  have ia := inv_ok ha
  have ib := inv_ok hb
  rw [inv_mul, ← mul_assoc ib (mulP_ok ia hp) ha, ← mul_assoc ib ia hp, ← mul_assoc (mulP_ok (mulP_ok ib ia) hp) ha hb]
theorem con_id {p : Pr} (hp : okP p) : conP p idP = red p := by
  unfold conP
  have hr : okP (red p) := red_ok hp []
  rw [show invP idP = idP from rfl, id_mul hp, mul_id hr, red_red]
theorem con_self (p q : Pr) : red (conP p q) = conP p q := mul_red _ _
theorem con_back {p a : Pr} (hp : okP p) (ha : okP a) : conP (conP p a) (invP a) = red p := by
  rw [con_con hp ha (inv_ok ha), mul_inv ha, con_id hp]
end Go.Proofs.YtjmbkieocmhmiaaGreat

/-! RuP -/
namespace Go.Proofs.YtjmbkieocmhmiaaGreat

theorem redBy_uniq : ∀ (k : Nat) (p : Pr) (cs : List Int), p.1.carets = k → redBy p cs = red p := by
  intro k
  induction k with
  | zero =>
    intro p cs h
    have hb := both_empty h
    rw [redBy_end hb, red, redBy_end hb]
  | succ k ih =>
    intro p cs h
    cases hb : both p with
    | nil => rw [redBy_end hb, red, redBy_end hb]
    | cons n ns =>
      have hm := pick_mem hb cs
      have hc := dropP_carets hm
      rw [redBy_step hb cs, ih _ _ (by omega)]
      exact red_drop _ p rfl _ hm
theorem graft_exp (t : Tr) : ∀ n : Int, 0 ≤ n → n < t.leaves → n ∈ (t.graft n (.nd .lf .lf)).exps 0 ∧ (t.graft n (.nd .lf .lf)).dropAt n = t := by
  induction t with
  | lf =>
    intro n h1 h2
    have : n = 0 := by unfold Tr.leaves Tr.carets at h2; omega
    subst this
    simp [Tr.graft, Tr.exps, Tr.dropAt, Tr.isLf]
  | nd l r ihl ihr =>
    intro n h1 h2
    rw [leaves_nd] at h2
    rw [Tr.graft]
    by_cases hn : n < l.leaves
    · rw [if_pos hn]
      obtain ⟨e1, e2⟩ := ihl n h1 hn
      refine ⟨mem_left e1, ?_⟩
      rw [drop_left e1, e2]
    · rw [if_neg hn]
      obtain ⟨e1, e2⟩ := ihr (n - l.leaves) (by omega) (by omega)
      refine ⟨mem_right e1, ?_⟩
      rw [drop_right e1, e2]
theorem exp_both {p : Pr} (hp : okP p) {n : Int} (h1 : 0 ≤ n) (h2 : n ≤ p.1.carets) : n ∈ both (p.1.graft n (.nd .lf .lf), p.2.graft n (.nd .lf .lf)) ∧ red (p.1.graft n (.nd .lf .lf), p.2.graft n (.nd .lf .lf)) = red p := by
  have hp' : p.1.carets = p.2.carets := hp
  obtain ⟨a1, a2⟩ := graft_exp p.1 n h1 (by unfold Tr.leaves; omega)
  obtain ⟨b1, b2⟩ := graft_exp p.2 n h1 (by unfold Tr.leaves; omega)
  have hm : n ∈ both (p.1.graft n (.nd .lf .lf), p.2.graft n (.nd .lf .lf)) := mem_both.2 ⟨a1, b1⟩
  refine ⟨hm, ?_⟩
  have h3 := red_drop _ (p.1.graft n (.nd .lf .lf), p.2.graft n (.nd .lf .lf)) rfl n hm
  rw [← h3, dropP]
  show red ((p.1.graft n (.nd .lf .lf)).dropAt n, (p.2.graft n (.nd .lf .lf)).dropAt n) = red p
  rw [a2, b2]
theorem red_less {p : Pr} (h : both p ≠ []) : (red p).1.carets < p.1.carets := by
  cases hb : both p with
  | nil => exact absurd hb h
  | cons n ns =>
    have hm : n ∈ both p := by rw [hb]; simp
    have hc := dropP_carets hm
    have h3 := red_drop _ p rfl n hm
    have h4 := (redBy_carets (dropP p n) []).1
    rw [← h3]
    show (redBy (dropP p n) []).1.carets < _
    omega
end Go.Proofs.YtjmbkieocmhmiaaGreat

/-! WIsPartOf -/
namespace Go.Proofs.YtjmbkieocmhmiaaGreat
open Go.RowKit

def partO (a b : ByteArray) : Option Bool :=
  match treeOf a, treeOf b with
  | some t, some u => some (t.part u)
  | _, _ => none

end Go.Proofs.YtjmbkieocmhmiaaGreat

/-! Same -/
namespace Go.Proofs.YtjmbkieocmhmiaaGreat
open Go.RowKit

theorem sameB_yes {p q : Pr} (h : red p = red q) : sameB p q = true := by unfold sameB; exact @decide_eq_true _ (Classical.propDecidable _) h
theorem ansB_some (b : Bool) : ansB (some b) = .tuple #[.bool b, .bool true] := by cases b <;> rfl
theorem ansB_tt : ansB (some true) = .tuple #[.bool true, .bool true] := rfl
set_option maxRecDepth 100000 in
theorem sameMap_any (a b c d : ByteArray) (w : World) (p q : Pr) (hp : pairOf a b = some p) (hq : pairOf c d = some q) (h : red p = red q) (z1 : a.size ≤ 1000) (z2 : b.size ≤ 1000) (z3 : c.size ≤ 1000) (z4 : d.size ≤ 1000) :
    Calls Tryz.prog 12 #[.agg #[.string a, .string b], .agg #[.string c, .string d]] w (Gives (.bool true) w) := by
  have hS := fun w => implAreSamePairs_any a b c d w (by omega) (by omega) (by omega) (by omega)
  rw [hp, hq] at hS
  simp only [Option.bind_some] at hS
  rw [sameB_yes h, ansB_tt] at hS
  have hx0 := heap_keep (allocB (w.alloc (.cells #[.string a, .string b] 25 (0, 0))) (.cells #[.string c, .string d] 25 (0, 0))) (heap_alloc_at w (.cells #[.string a, .string b] 25 (0, 0)))
  have hx1 := heap_alloc_at (w.alloc (.cells #[.string a, .string b] 25 (0, 0))) (.cells #[.string c, .string d] 25 (0, 0))
  rw [show (w.alloc (.cells #[.string a, .string b] 25 (0, 0))).heap.size = w.heap.size + 1 by simp] at hx1
  have hb := nxAlloc (nxAlloc (Below.refl w.heap.size w) (.cells #[.string a, .string b] 25 (0, 0))) (.cells #[.string c, .string d] 25 (0, 0))
  obtain ⟨f1, f2, f3⟩ := two_facts hx0
  obtain ⟨g1, g2, g3⟩ := two_facts hx1
  clear hx0 hx1 hp hq h
  go_enter Tryz.func12, Tryz.ntmps12
  go_wp2_with fail
  refine (hS _).mono ?_; rintro e w1 ⟨rfl, hb1⟩
  go_wp2_with fail
  go_ret
  exact ⟨rfl, nx hb hb1⟩
end Go.Proofs.YtjmbkieocmhmiaaGreat

/-! FrP -/
namespace Go.Proofs.YtjmbkieocmhmiaaGreat

/-- Is it a power of 2, 1 to 1024? -/
def isP2 (d : Int) : Bool := decide (d ∈ [(1 : Int), 2, 4, 8, 16, 32, 64, 128, 256, 512, 1024])
/-- Is it a fraction? -/
def isFr (n d : Int) : Bool := isP2 d && (decide (0 ≤ n) && (decide (n ≤ d) && (decide (d = 1) || decide (n % 2 = 1))))
theorem isP2_mem {d : Int} : isP2 d = true ↔ d = 1 ∨ d = 2 ∨ d = 4 ∨ d = 8 ∨ d = 16 ∨ d = 32 ∨ d = 64 ∨ d = 128 ∨ d = 256 ∨ d = 512 ∨ d = 1024 := by
  simp [isP2]
theorem isP2_pow {d : Int} (h : isP2 d = true) : ∃ k : Nat, k ≤ 10 ∧ d = ((2 ^ k : Nat) : Int) := by
  rcases isP2_mem.1 h with h | h | h | h | h | h | h | h | h | h | h
  · exact ⟨0, by omega, h⟩
  · exact ⟨1, by omega, h⟩
  · exact ⟨2, by omega, h⟩
  · exact ⟨3, by omega, h⟩
  · exact ⟨4, by omega, h⟩
  · exact ⟨5, by omega, h⟩
  · exact ⟨6, by omega, h⟩
  · exact ⟨7, by omega, h⟩
  · exact ⟨8, by omega, h⟩
  · exact ⟨9, by omega, h⟩
  · exact ⟨10, by omega, h⟩
theorem pow_isP2 {k : Nat} (h : k ≤ 10) : isP2 ((2 ^ k : Nat) : Int) = true := by
  have : k = 0 ∨ k = 1 ∨ k = 2 ∨ k = 3 ∨ k = 4 ∨ k = 5 ∨ k = 6 ∨ k = 7 ∨ k = 8 ∨ k = 9 ∨ k = 10 := by omega
  rcases this with h | h | h | h | h | h | h | h | h | h | h <;> subst h <;> decide
theorem isP2_bounds {d : Int} (h : isP2 d = true) : 1 ≤ d ∧ d ≤ 1024 := by
  have := isP2_mem.1 h; omega
theorem isP2_odd {d : Int} (h : 1 < d) (h2 : d % 2 = 1) : isP2 d = false := by
  rw [Bool.eq_false_iff, Ne, isP2_mem]; omega
theorem isP2_half {d : Int} (h : 1 < d) (h1 : d ≤ 1024) (h2 : ¬ d % 2 = 1) : isP2 (d / 2) = isP2 d := by
  rw [Bool.eq_iff_iff, isP2_mem, isP2_mem]; omega
theorem isFr_iff {n d : Int} : isFr n d = true ↔ isP2 d = true ∧ 0 ≤ n ∧ n ≤ d ∧ (d = 1 ∨ n % 2 = 1) := by
  simp [isFr]

/-- In lowest terms. -/
def shortN (n d : Nat) : Nat × Nat := (n / Nat.gcd n d, d / Nat.gcd n d)
theorem short_cross {n d n' d' : Nat} (hd : 0 < d) (hd' : 0 < d') (h : n * d' = n' * d) : shortN n d = shortN n' d' := by
  have g0 : 0 < Nat.gcd n d := Nat.gcd_pos_of_pos_right _ hd
  have g0' : 0 < Nat.gcd n' d' := Nat.gcd_pos_of_pos_right _ hd'
  have c := Nat.coprime_div_gcd_div_gcd g0
  have c' := Nat.coprime_div_gcd_div_gcd g0'
  obtain ⟨a, ha⟩ := Nat.gcd_dvd_left n d
  obtain ⟨b, hb⟩ := Nat.gcd_dvd_right n d
  obtain ⟨a', ha'⟩ := Nat.gcd_dvd_left n' d'
  obtain ⟨b', hb'⟩ := Nat.gcd_dvd_right n' d'
  unfold shortN
  generalize Nat.gcd n d = g at *
  generalize Nat.gcd n' d' = g' at *
  subst ha hb ha' hb'
  rw [Nat.mul_div_cancel_left _ g0, Nat.mul_div_cancel_left _ g0] at c ⊢
  rw [Nat.mul_div_cancel_left _ g0', Nat.mul_div_cancel_left _ g0'] at c' ⊢
  have e : a * b' = a' * b := by
    have h2 : (g * g') * (a * b') = (g * g') * (a' * b) := by
      calc (g * g') * (a * b') = g * a * (g' * b') := by ac_rfl
        _ = g' * a' * (g * b) := h
        _ = (g * g') * (a' * b) := by ac_rfl
    exact Nat.eq_of_mul_eq_mul_left (Nat.mul_pos g0 g0') h2
  have hb0 : 0 < b := Nat.pos_of_ne_zero fun h => by subst h; simp at hd
  have hb0' : 0 < b' := Nat.pos_of_ne_zero fun h => by subst h; simp at hd'
  have d1 : b ∣ b' := (Nat.Coprime.symm c).dvd_of_dvd_mul_left (k := b) (n := b') (m := a) ⟨a', by rw [e]; ac_rfl⟩
  have d2 : b' ∣ b := (Nat.Coprime.symm c').dvd_of_dvd_mul_left (k := b') (n := b) (m := a') ⟨a, by rw [← e]; ac_rfl⟩
  have eb : b = b' := Nat.dvd_antisymm d1 d2
  subst eb
  have ea : a = a' := Nat.eq_of_mul_eq_mul_right hb0 e
  subst ea; rfl
theorem short_self {n d : Nat} (h : Nat.gcd n d = 1) : shortN n d = (n, d) := by simp [shortN, h]
theorem gcd_odd_pow {n : Nat} (h : n % 2 = 1) : ∀ k : Nat, Nat.gcd n (2 ^ k) = 1 := by
  intro k
  have : Nat.Coprime n (2 ^ k) := by
    apply Nat.Coprime.pow_right
    have h2 : Nat.gcd n 2 = Nat.gcd 2 n := Nat.gcd_comm _ _
    show Nat.gcd n 2 = 1
    rw [h2, Nat.gcd_rec, h]
    rfl
  exact this

/-- The fraction of so many steps. -/
def frOf (s : Nat) : Nat × Nat := shortN s 1048576
/-- .. if it is one. -/
def frA (s : Nat) : Option (Nat × Nat) := if isFr (frOf s).1 (frOf s).2 = true then some (frOf s) else none
/-- How many steps. -/
def stepsOf (n d : Int) : Nat := n.toNat * (1048576 / d.toNat)
theorem short_pos {n d : Nat} (hd : 0 < d) : 0 < (shortN n d).2 := Nat.div_pos (Nat.le_of_dvd hd (Nat.gcd_dvd_right _ _)) (Nat.gcd_pos_of_pos_right _ hd)
theorem short_bounds (n d : Nat) : (shortN n d).1 ≤ n ∧ (shortN n d).2 ≤ d := ⟨Nat.div_le_self _ _, Nat.div_le_self _ _⟩
theorem short_le {n d : Nat} (h : n ≤ d) : (shortN n d).1 ≤ (shortN n d).2 := Nat.div_le_div_right h
theorem frOf_steps {n d : Nat} (h : isFr n d = true) : frOf (stepsOf n d) = (n, d) := by
  obtain ⟨h1, h2, h3, h4⟩ := isFr_iff.1 h
  obtain ⟨k, hk, e⟩ := isP2_pow h1
  have e' : d = 2 ^ k := by omega
  have hd : 1048576 = 2 ^ (20 - k) * d := by rw [e', ← Nat.pow_add]; have : 20 - k + k = 20 := by omega
                                             rw [this]
  have hd0 : 0 < d := by rw [e']; exact Nat.pow_pos (by omega)
  have hs : stepsOf n d = n * 2 ^ (20 - k) := by
    unfold stepsOf
    rw [Int.toNat_natCast, Int.toNat_natCast, hd, Nat.mul_div_cancel _ hd0]
  unfold frOf
  rw [hs, short_cross (by omega) hd0 (n' := n) (d' := d) (by rw [hd, Nat.mul_assoc])]
  apply short_self
  rcases h4 with h4 | h4
  · have : d = 1 := by omega
    rw [this]; exact Nat.gcd_one_right _
  · rw [e']; exact gcd_odd_pow (by omega) k
theorem steps_le {n d : Int} (h : isFr n d = true) : stepsOf n d ≤ 1048576 ∧ stepsOf n d % 1024 = 0 ∧ (stepsOf n d : Int) = n * (1048576 / d) := by
  obtain ⟨h1, h2, h3, h4⟩ := isFr_iff.1 h
  unfold stepsOf
  rcases isP2_mem.1 h1 with e | e | e | e | e | e | e | e | e | e | e <;> subst e <;> simp <;> omega
/-- Halves, so long as it goes. -/
theorem frOf_even {s n d : Nat} (h : n * 1048576 = s * d) (hd : 0 < d) : frOf s = shortN n d :=
  short_cross (by omega) hd (by rw [h])
end Go.Proofs.YtjmbkieocmhmiaaGreat

/-! FrQ -/
namespace Go.Proofs.YtjmbkieocmhmiaaGreat

theorem steps_cross {n d : Nat} (h : isFr n d = true) : n * 1048576 = stepsOf n d * d := by
  obtain ⟨h1, h2, h3, h4⟩ := isFr_iff.1 h
  unfold stepsOf
  rcases isP2_mem.1 h1 with e | e | e | e | e | e | e | e | e | e | e <;>
    (have e' := congrArg Int.toNat e; simp at e'; subst e'; simp; try omega)
/-- The half of a sum. -/
theorem half_cross {n d m e : Nat} (h : isFr n d = true) (k : isFr m e = true) :
    (n * e + m * d) * 1048576 = ((stepsOf n d + stepsOf m e) / 2) * (2 * d * e) := by
  have h1 := steps_cross h
  have k1 := steps_cross k
  have h2 := (steps_le h).2.1
  have k2 := (steps_le k).2.1
  obtain ⟨W, hW⟩ : ∃ W, W = 1048576 := ⟨_, rfl⟩
  rw [← hW] at h1 k1 ⊢
  generalize stepsOf n d = s at *
  generalize stepsOf m e = t at *
  obtain ⟨q, hq⟩ : ∃ q, s + t = 2 * q := ⟨(s + t) / 2, by omega⟩
  rw [hq, Nat.mul_div_cancel_left _ (by omega)]
  calc (n * e + m * d) * W = (n * W) * e + (m * W) * d := by rw [Nat.add_mul]; congr 1 <;> ac_rfl
    _ = (s + t) * (d * e) := by rw [h1, k1, Nat.add_mul]; congr 1 <;> ac_rfl
    _ = q * (2 * d * e) := by rw [hq]; ac_rfl

/-- The number that letters make in the base 2. -/
def numA (l : List UInt8) : Nat := l.foldl (fun n b => 2 * n + (b.toNat - 48)) 0
def isBit (b : UInt8) : Bool := b == 48 || b == 49
/-- Is a text an address? -/
def isAd (a : ByteArray) : Bool := decide (a.size ≤ 10) && a.data.toList.all isBit
/-- Where an address begins, in steps. -/
def stA (a : ByteArray) : Nat := numA a.data.toList * 2 ^ (20 - a.size)
theorem isBit_iff {b : UInt8} : isBit b = true ↔ b = 48 ∨ b = 49 := by simp [isBit]
theorem isBit_nat {b : UInt8} (h : isBit b = true) : b.toNat = 48 ∨ b.toNat = 49 := by
  rcases isBit_iff.1 h with h | h <;> subst h <;> simp
theorem numA_snoc (l : List UInt8) (b : UInt8) : numA (l ++ [b]) = 2 * numA l + (b.toNat - 48) := by simp [numA, List.foldl_append]
theorem numA_take {l : List UInt8} {k : Nat} (h : k < l.length) : numA (l.take (k + 1)) = 2 * numA (l.take k) + ((l.getD k 0).toNat - 48) := by
  rw [List.take_succ_eq_append_getElem h, numA_snoc]; simp [h]
theorem numA_lt : ∀ (n : Nat) (l : List UInt8), l.length = n → l.all isBit = true → numA l < 2 ^ n := by
  intro n
  induction n with
  | zero => intro l hl _; obtain rfl : l = [] := List.length_eq_zero_iff.1 hl; simp [numA]
  | succ n ih =>
    intro l hl hb
    have hne : l ≠ [] := by intro h; subst h; simp at hl
    obtain ⟨l', b, rfl⟩ : ∃ l' b, l = l' ++ [b] := ⟨l.dropLast, l.getLast hne, (List.dropLast_concat_getLast hne).symm⟩
    rw [List.all_append, Bool.and_eq_true] at hb
    simp at hl hb
    have := ih l' hl (by simpa using hb.1)
    have := isBit_nat hb.2
    rw [numA_snoc, Nat.pow_succ]; omega
theorem isAd_iff {a : ByteArray} : isAd a = true ↔ a.size ≤ 10 ∧ a.data.toList.all isBit = true := by simp [isAd]

set_option maxRecDepth 100000 in
theorem frOf_1024 : ∀ m : Fin 1025, isFr (shortN m.val 1024).1 (shortN m.val 1024).2 = true := by decide +kernel
theorem frOf_short (m : Nat) : frOf (m * 1024) = shortN m 1024 := short_cross (by omega) (by omega) (by omega)
theorem frOf_thousand {s : Nat} (h : s ≤ 1048576) (h2 : s % 1024 = 0) : isFr (frOf s).1 (frOf s).2 = true := by
  obtain ⟨m, rfl⟩ : ∃ m, s = m * 1024 := ⟨s / 1024, by omega⟩
  rw [frOf_short]
  exact frOf_1024 ⟨m, by omega⟩
theorem frA_thousand {s : Nat} (h : s ≤ 1048576) (h2 : s % 1024 = 0) : frA s = some (frOf s) := by
  unfold frA; rw [if_pos (frOf_thousand h h2)]
/-- Each number of steps is more than that of its fraction by what is no fraction. -/
theorem stA_frOf {a : ByteArray} (h : a.size ≤ 20) : frOf (stA a) = shortN (numA a.data.toList) (2 ^ a.size) := by
  refine short_cross (by omega) (Nat.pow_pos (by omega)) ?_
  unfold stA
  rw [Nat.mul_assoc, ← Nat.pow_add, show 20 - a.size + a.size = 20 by omega]
theorem stA_lt {a : ByteArray} (h : a.size ≤ 20) (hb : a.data.toList.all isBit = true) : stA a < 1048576 := by
  have h1 := numA_lt _ a.data.toList rfl hb
  have h2 : a.data.toList.length = a.size := rfl
  rw [h2] at h1
  unfold stA
  have := Nat.mul_lt_mul_of_pos_right h1 (Nat.pow_pos (n := 20 - a.size) (by omega : 0 < 2))
  rw [← Nat.pow_add, show a.size + (20 - a.size) = 20 by omega] at this
  simpa using this
theorem stA_thousand {a : ByteArray} (h : a.size ≤ 10) : stA a % 1024 = 0 := by
  unfold stA
  rw [show (20 - a.size) = (10 - a.size) + 10 by omega, Nat.pow_add, ← Nat.mul_assoc]
  simp

/-- The last index of a list whose number is not beyond s; 0 for none. -/
def lastTo (l : List Nat) (s : Nat) : Nat := go l s 0 0 where
  go : List Nat → Nat → Nat → Nat → Nat
  | [], _, _, r => r
  | x :: l, s, k, r => go l s (k + 1) (if x ≤ s then k else r)
theorem lastTo_go_snoc (l : List Nat) (x s : Nat) : ∀ k r, lastTo.go (l ++ [x]) s k r = if x ≤ s then k + l.length else lastTo.go l s k r := by
  induction l with
  | nil => intro k r; simp [lastTo.go]
  | cons y l ih =>
    intro k r
    simp only [List.cons_append, lastTo.go, ih, List.length_cons]
    split
    · omega
    · rfl
theorem lastTo_take {l : List Nat} {k s : Nat} (h : k < l.length) : lastTo (l.take (k + 1)) s = if l.getD k 0 ≤ s then k else lastTo (l.take k) s := by
  rw [List.take_succ_eq_append_getElem h]
  unfold lastTo
  rw [lastTo_go_snoc]
  rw [List.length_take, Nat.min_eq_left (by omega), Nat.zero_add]
  simp [h]
theorem lastTo_zero (s : Nat) : lastTo [] s = 0 := rfl
theorem lastTo_lt : ∀ (l : List Nat) (s : Nat), 0 < l.length → lastTo l s < l.length := by
  intro l s h
  have : ∀ (n : Nat), n ≤ l.length → lastTo (l.take n) s ≤ n - 1 := by
    intro n
    induction n with
    | zero => intro _; simp [lastTo, lastTo.go]
    | succ n ih => intro hn; rw [lastTo_take (by omega)]; have := ih (by omega); split <;> omega
  have := this l.length (Nat.le_refl _)
  rw [List.take_length] at this
  omega
/-- Where the leaves of a tree begin. -/
def Tr.starts (t : Tr) : List Nat := (t.addrs ⟨#[]⟩).map stA
theorem starts_length (t : Tr) : t.starts.length = t.carets + 1 := by simp [Tr.starts, addrs_length]
end Go.Proofs.YtjmbkieocmhmiaaGreat

/-! FrV -/
namespace Go.Proofs.YtjmbkieocmhmiaaGreat

theorem data_size (a : ByteArray) : a.data.toList.length = a.size := rfl
theorem data_append (a b : ByteArray) : (a ++ b).data.toList = a.data.toList ++ b.data.toList := by simp
/-- All addresses are of letters 0 and 1. -/
theorem addrs_bits (t : Tr) : ∀ here : ByteArray, here.data.toList.all isBit = true → ∀ s ∈ t.addrs here, s.data.toList.all isBit = true := by
  induction t with
  | lf => intro here h s hs; simp [Tr.addrs] at hs; subst hs; exact h
  | nd l r ihl ihr =>
    intro here h s hs
    rw [Tr.addrs, List.mem_append] at hs
    rcases hs with hs | hs
    · exact ihl _ (by rw [data_append, List.all_append, h]; rfl) s hs
    · exact ihr _ (by rw [data_append, List.all_append, h]; rfl) s hs
theorem addrs_ne (t : Tr) (here : ByteArray) : t.addrs here ≠ [] := by
  intro h
  have := addrs_length t here
  rw [h] at this
  simp at this
/-- The first leaf begins where the tree does. -/
theorem addrs_first (t : Tr) : ∀ here : ByteArray, numA here.data.toList = 0 → ∃ s l, t.addrs here = s :: l ∧ numA s.data.toList = 0 := by
  induction t with
  | lf => intro here h; exact ⟨here, [], rfl, h⟩
  | nd l r ihl ihr =>
    intro here h
    obtain ⟨s, k, e, hs⟩ := ihl (here ++ ⟨#[48]⟩) (by rw [data_append]; show numA (here.data.toList ++ [48]) = 0; rw [numA_snoc, h]; rfl)
    exact ⟨s, k ++ r.addrs (here ++ ⟨#[49]⟩), by rw [Tr.addrs, e]; rfl, hs⟩
theorem starts_first (t : Tr) : t.starts.getD 0 0 = 0 := by
  obtain ⟨s, l, e, h⟩ := addrs_first t ⟨#[]⟩ rfl
  unfold Tr.starts
  rw [e]
  show stA s = 0
  unfold stA; rw [h]; simp
theorem starts_at (t : Tr) {k : Nat} (h : k < t.carets + 1) : t.starts.getD k 0 = stA ((t.addrs ⟨#[]⟩).getD k ⟨#[]⟩) := by
  have hl := addrs_length t ⟨#[]⟩
  have : k < (t.addrs ⟨#[]⟩).length := by omega
  simp [Tr.starts, this]
/-- An address of a tree of at most eight carets. -/
theorem addr_facts (t : Tr) (hc : t.carets ≤ 8) {k : Nat} (h : k < t.carets + 1) :
    ∃ a, a = (t.addrs ⟨#[]⟩).getD k ⟨#[]⟩ ∧ a.size ≤ 8 ∧ a.data.toList.all isBit = true := by
  have hl := addrs_length t ⟨#[]⟩
  have hk : k < (t.addrs ⟨#[]⟩).length := by omega
  have hm : (t.addrs ⟨#[]⟩).getD k ⟨#[]⟩ ∈ t.addrs ⟨#[]⟩ := by simp [hk]
  refine ⟨_, rfl, ?_, addrs_bits t _ rfl _ hm⟩
  have := addrs_size t ⟨#[]⟩ _ hm
  have e : (⟨#[]⟩ : ByteArray).size = 0 := rfl
  omega
theorem lastTo_le : ∀ (l : List Nat) (s : Nat), l.getD 0 0 = 0 → l.getD (lastTo l s) 0 ≤ s := by
  intro l s h
  have : ∀ (n : Nat), n ≤ l.length → l.getD (lastTo (l.take n) s) 0 ≤ s := by
    intro n
    induction n with
    | zero => intro _; simp only [List.take_zero, lastTo_zero]; omega
    | succ n ih =>
      intro hn
      rw [lastTo_take (by omega)]
      split
      · assumption
      · exact ih (by omega)
  have := this l.length (Nat.le_refl _)
  rwa [List.take_length] at this

/-- The value of a number of steps on a leaf: its start, that of its image, and their lengths. -/
def valN (sa la sb lb s : Nat) : Nat := sb + (s - sa) * 2 ^ la / 2 ^ lb
theorem valN_exact {sa la sb lb s : Nat} (hs : s % 1024 = 0) (ha : sa % 1024 = 0) (hb : lb ≤ 10) : valN sa la sb lb s * 2 ^ lb = sb * 2 ^ lb + (s - sa) * 2 ^ la := by
  unfold valN
  rw [Nat.add_mul]
  congr 1
  apply Nat.div_mul_cancel
  have h1 : 2 ^ lb ∣ 1024 := by
    rw [show 1024 = 2 ^ 10 by rfl]
    exact Nat.pow_dvd_pow 2 hb
  have h2 : 1024 ∣ s - sa := by omega
  exact Nat.dvd_trans (Nat.dvd_trans h1 h2) (Nat.dvd_mul_right _ _)
theorem pow_split {a b : Nat} (h : a ≤ b) : (2 : Nat) ^ b = 2 ^ (b - a) * 2 ^ a := by rw [← Nat.pow_add]; congr 1; omega
theorem valN_up {sa la sb lb s : Nat} (h : lb ≤ la) : valN sa la sb lb s = sb + (s - sa) * 2 ^ (la - lb) := by
  unfold valN
  rw [pow_split h, ← Nat.mul_assoc, Nat.mul_div_cancel _ (Nat.pow_pos (by omega))]
theorem valN_down {sa la sb lb s : Nat} (h : la ≤ lb) : valN sa la sb lb s = sb + (s - sa) / 2 ^ (lb - la) := by
  unfold valN
  rw [pow_split h, Nat.mul_div_mul_right _ _ (Nat.pow_pos (by omega))]
theorem value_cross {W n d na da nb db la lb s sa sb v : Nat} (h : n * W = s * d) (ha : na * W = sa * da) (hb : nb * W = sb * db) (hv : v * 2 ^ lb = sb * 2 ^ lb + (s - sa) * 2 ^ la) :
    ((n * da - na * d) * 2 ^ la * db + nb * (d * da * 2 ^ lb)) * W = v * (d * da * 2 ^ lb * db) := by
  have e1 : (n * da - na * d) * W = (s - sa) * (d * da) := by
    rw [Nat.sub_mul, Nat.sub_mul]
    congr 1
    · calc n * da * W = (n * W) * da := by ac_rfl
        _ = s * (d * da) := by rw [h]; ac_rfl
    · calc na * d * W = (na * W) * d := by ac_rfl
        _ = sa * (d * da) := by rw [ha]; ac_rfl
  calc ((n * da - na * d) * 2 ^ la * db + nb * (d * da * 2 ^ lb)) * W
      = ((n * da - na * d) * W) * (2 ^ la * db) + (nb * W) * (d * da * 2 ^ lb) := by rw [Nat.add_mul]; congr 1 <;> ac_rfl
    _ = (s - sa) * (d * da) * (2 ^ la * db) + sb * db * (d * da * 2 ^ lb) := by rw [e1, hb]
    _ = (sb * 2 ^ lb + (s - sa) * 2 ^ la) * (d * da * db) := by rw [Nat.add_mul, Nat.add_comm]; congr 1 <;> ac_rfl
    _ = v * 2 ^ lb * (d * da * db) := by rw [hv]
    _ = v * (d * da * 2 ^ lb * db) := by ac_rfl
theorem short_steps {W n d : Nat} (hd : 0 < d) (hp : d ∣ W) : (shortN n d).1 * W = (n * (W / d)) * (shortN n d).2 := by
  obtain ⟨q, hq⟩ := hp
  have g0 : 0 < Nat.gcd n d := Nat.gcd_pos_of_pos_right _ hd
  obtain ⟨a, ha⟩ := Nat.gcd_dvd_left n d
  obtain ⟨b, hb⟩ := Nat.gcd_dvd_right n d
  have e : W / d = q := by rw [hq, Nat.mul_div_cancel_left _ hd]
  rw [e, hq]
  unfold shortN
  show n / Nat.gcd n d * (d * q) = n * q * (d / Nat.gcd n d)
  have e1 : n / Nat.gcd n d = a := Nat.div_eq_of_eq_mul_right g0 ha
  have e2 : d / Nat.gcd n d = b := Nat.div_eq_of_eq_mul_right g0 hb
  rw [e1, e2]
  generalize Nat.gcd n d = g at *
  rw [ha, hb]
  ac_rfl
theorem stA_cross {a : ByteArray} (h : a.size ≤ 20) : (shortN (numA a.data.toList) (2 ^ a.size)).1 * 1048576 = stA a * (shortN (numA a.data.toList) (2 ^ a.size)).2 := by
  obtain ⟨W, hW⟩ : ∃ W, W = 1048576 := ⟨_, rfl⟩
  have hp : W = 2 ^ (20 - a.size) * 2 ^ a.size := by rw [← Nat.pow_add, show 20 - a.size + a.size = 20 by omega, hW]
  rw [← hW, short_steps (W := W) (Nat.pow_pos (by omega)) ⟨2 ^ (20 - a.size), by rw [hp]; ac_rfl⟩]
  unfold stA
  congr 2
  rw [hp, Nat.mul_div_cancel _ (Nat.pow_pos (by omega))]

/-- Slopes, leaf by leaf, as powers of 2. -/
def slopesL : List ByteArray → List ByteArray → List Int
  | a :: l, b :: m => ((a.size : Int) - b.size) :: slopesL l m
  | _, _ => []
def slopes (p : Pr) : List Int := slopesL (p.1.addrs ⟨#[]⟩) (p.2.addrs ⟨#[]⟩)
theorem slopesL_length : ∀ (l m : List ByteArray), l.length = m.length → (slopesL l m).length = l.length := by
  intro l
  induction l with
  | nil => intro m h; cases m <;> rfl
  | cons a l ih => intro m h; match m, h with
    | b :: m, h => simp [slopesL, ih m (by simpa using h)]
theorem slopesL_get : ∀ (l m : List ByteArray), l.length = m.length → ∀ k, k < l.length → (slopesL l m).getD k 0 = ((l.getD k ⟨#[]⟩).size : Int) - (m.getD k ⟨#[]⟩).size := by
  intro l
  induction l with
  | nil => intro m h k hk; simp at hk
  | cons a l ih => intro m h k hk; match m, h with
    | b :: m, h =>
      match k with
      | 0 => rfl
      | k + 1 => exact ih m (by simpa using h) k (by simpa using hk)
theorem take_succ_getD {α : Type} [Inhabited α] (l : List α) (d : α) {k : Nat} (h : k < l.length) : l.take (k + 1) = l.take k ++ [l.getD k d] := by
  rw [List.take_succ_eq_append_getElem h]; simp [h]
end Go.Proofs.YtjmbkieocmhmiaaGreat

/-! MuP -/
namespace Go.Proofs.YtjmbkieocmhmiaaGreat

theorem mir_leaves (t : Tr) : t.mir.leaves = t.leaves := by unfold Tr.leaves; rw [mir_carets]
theorem mir_back (t : Tr) : t.mir.mir = t := by
  induction t with
  | lf => rfl
  | nd l r ihl ihr => rw [Tr.mir, Tr.mir, ihl, ihr]
theorem mir_join (a : Tr) : ∀ b : Tr, (a.join b).mir = a.mir.join b.mir := by
  induction a with
  | lf => intro b; cases b <;> rfl
  | nd l r ihl ihr =>
    intro b
    cases b with
    | lf => rfl
    | nd p q => rw [Tr.join, Tr.mir, Tr.mir, Tr.mir, Tr.join, ihl, ihr]
theorem mir_fill (t : Tr) : ∀ us : List Tr, us.length = t.leaves → (t.fill us).mir = t.mir.fill (us.map Tr.mir).reverse := by
  induction t with
  | lf =>
    intro us h
    match us, h with
    | [u], _ => rfl
    | [], h => simp [Tr.leaves] at h
    | _ :: _ :: _, h => simp [Tr.leaves, Tr.carets] at h
  | nd l r ihl ihr =>
    intro us h
    obtain ⟨A, B, rfl, hA, hB⟩ := partsT h
    rw [fill_nd hA hB, Tr.mir, Tr.mir, List.map_append, List.reverse_append, fill_nd (by simp [mir_leaves, hB]) (by simp [mir_leaves, hA]), ihl A hA, ihr B hB]
theorem mir_part (a : Tr) : ∀ g : Tr, a.part g = true → a.mir.part g.mir = true := by
  induction a with
  | lf => intro g _; rfl
  | nd l r ihl ihr =>
    intro g h
    cases g with
    | lf => simp [Tr.part] at h
    | nd p q =>
      simp [Tr.part] at h
      simp [Tr.mir, Tr.part, ihl p h.1, ihr q h.2]
theorem mir_subs {a g : Tr} (h : a.part g = true) : a.mir.subs g.mir = ((a.subs g).map Tr.mir).reverse := by
  have hl := (below_carets a g h).2
  conv => lhs; rw [← fill_subs a g h, mir_fill a _ hl]
  exact (subs_fill a.mir _ (by simp [mir_leaves, hl])).2
/-- A pair's mirror. -/
def mirP (p : Pr) : Pr := (p.1.mir, p.2.mir)
theorem mirP_ok {p : Pr} (h : okP p) : okP (mirP p) := by unfold okP mirP at *; dsimp only; rw [mir_carets, mir_carets]; exact h
theorem mirP_back (p : Pr) : mirP (mirP p) = p := by unfold mirP; dsimp only; rw [mir_back, mir_back]
theorem mirP_exp {p : Pr} (hp : okP p) {V : List Tr} (hV : V.length = p.1.leaves) : mirP (expE p V) = expE (mirP p) (V.map Tr.mir).reverse := by
  have o := okP_leaves hp
  unfold mirP expE
  dsimp only
  rw [mir_fill _ _ hV, mir_fill _ _ (by omega)]
theorem red_same_mir {p : Pr} (hp : okP p) : red (mirP (red p)) = red (mirP p) := by
  obtain ⟨h1, V, hV, he⟩ := red_exp _ p rfl hp
  conv => rhs; rw [← he, mirP_exp h1 hV]
  exact (red_expE (mirP_ok h1) _ _ rfl (by simp [mirP, mir_leaves, hV])).symm
theorem red_mir {p : Pr} (hp : okP p) : red (mirP p) = mirP (red p) := by
  rw [← red_same_mir hp]
  have hr : okP (red p) := red_ok hp []
  have hrr : red (red p) = red p := red_red p
  generalize red p = r at *
  -- the mirror of what is reduced is reduced
  obtain ⟨h1, V, hV, he⟩ := red_exp _ (mirP r) rfl (mirP_ok hr)
  have h2 : mirP (mirP r) = expE (mirP (red (mirP r))) (V.map Tr.mir).reverse := by
    conv => lhs; rw [← he]
    exact mirP_exp h1 hV
  rw [mirP_back] at h2
  have h3 : red r = red (mirP (red (mirP r))) := by
    conv => lhs; rw [h2]
    exact red_expE (mirP_ok h1) _ _ rfl (by simp [mirP, mir_leaves, hV])
  have c1 := redBy_carets (mirP (red (mirP r))) []
  have c2 : (red (mirP (red (mirP r)))).1.carets = r.1.carets := by rw [← h3, hrr]
  have c3 : (mirP (red (mirP r))).1.carets = (red (mirP r)).1.carets := mir_carets _
  have c4 : (mirP r).1.carets = r.1.carets := mir_carets _
  have c5 : (mirP r).1.carets = (red (mirP r)).1.carets + sumC V := by
    conv => lhs; rw [← he]
    exact fill_carets _ _ hV
  have c6 := c1.1
  have c7 : (redBy (mirP (red (mirP r))) []).1.carets = r.1.carets := c2
  have hz : sumC V = 0 := by omega
  have hv := all_lf V hz
  have o := okP_leaves h1
  rw [hv] at he
  conv => rhs; rw [← he]
  unfold expE
  rw [show List.replicate V.length Tr.lf = List.replicate (red (mirP r)).1.leaves .lf by rw [hV], fill_lfs, o, fill_lfs]
theorem raw_mir (p q : Pr) : rawP (mirP p) (mirP q) = mirP (rawP p q) ∨ ¬ okP p ∨ ¬ okP q := by
  by_cases hp : okP p
  · by_cases hq : okP q
    · left
      have o1 := okP_leaves hp
      have o2 := okP_leaves hq
      have j1 := part_join p.2 q.1
      have j2 := part_join' p.2 q.1
      have s1 := (below_carets p.2 _ j1).2
      have s2 := (below_carets q.1 _ j2).2
      unfold rawP mirP
      dsimp only
      rw [← mir_join, mir_subs j1, mir_subs j2, ← mir_fill p.1 _ (by omega), ← mir_fill q.2 _ (by omega)]
    · exact .inr (.inr hq)
  · exact .inr (.inl hp)
theorem mul_mir {p q : Pr} (hp : okP p) (hq : okP q) : mulP (mirP p) (mirP q) = mirP (mulP p q) := by
  have h : rawP (mirP p) (mirP q) = mirP (rawP p q) := (raw_mir p q).elim id (fun h => h.elim (fun h => absurd hp h) (fun h => absurd hq h))
  unfold mulP
  rw [h]
  exact red_mir (rawP_ok hp hq)

/-- A commutator does nothing if, and only if, both products are the same. -/
theorem com_id {p q : Pr} (hp : okP p) (hq : okP q) : mulP (mulP (invP p) (invP q)) (mulP p q) = idP ↔ mulP p q = mulP q p := by
  have hpq : okP (mulP p q) := mulP_ok hp hq
  have hqp : okP (mulP q p) := mulP_ok hq hp
  rw [← inv_mul q p]
  constructor
  · intro h
    have h1 : mulP (mulP q p) (mulP (invP (mulP q p)) (mulP p q)) = mulP (mulP q p) idP := by rw [h]
    rw [← mul_assoc hqp (inv_ok hqp) hpq, mul_inv hqp, id_mul hpq, mul_id hqp, mul_red, mul_red] at h1
    exact h1
  · intro h
    rw [h]
    exact mul_inv (inv_ok hqp)

/-- Depths of the first and the last leaf. -/
def fdT : Tr → Nat
  | .lf => 0
  | .nd l _ => fdT l + 1
def edT : Tr → Nat
  | .lf => 0
  | .nd _ r => edT r + 1
theorem fd_fill (t : Tr) : ∀ us : List Tr, us.length = t.leaves → fdT (t.fill us) = fdT t + fdT (us.headD .lf) := by
  induction t with
  | lf =>
    intro us h
    match us, h with
    | [u], _ => show fdT u = 0 + fdT u; omega
  | nd l r ihl _ =>
    intro us h
    obtain ⟨A, B, rfl, hA, hB⟩ := partsT h
    rw [fill_nd hA hB]
    show fdT (l.fill A) + 1 = fdT l + 1 + _
    rw [ihl A hA]
    have : (A ++ B).headD .lf = A.headD .lf := by
      cases A with
      | nil => unfold Tr.leaves at hA; simp at hA
      | cons a A => rfl
    rw [this]; omega
theorem ed_fill (t : Tr) : ∀ us : List Tr, us.length = t.leaves → edT (t.fill us) = edT t + edT (us.getLastD .lf) := by
  induction t with
  | lf =>
    intro us h
    match us, h with
    | [u], _ => show edT u = 0 + edT u; omega
  | nd l r _ ihr =>
    intro us h
    obtain ⟨A, B, rfl, hA, hB⟩ := partsT h
    have hne : B ≠ [] := by intro e; rw [e] at hB; unfold Tr.leaves at hB; simp at hB
    rw [fill_nd hA hB]
    show edT (r.fill B) + 1 = edT r + 1 + _
    rw [ihr B hB]
    have : (A ++ B).getLastD .lf = B.getLastD .lf := by
      simp [List.getLastD_eq_getLast?, List.getLast?_append, List.getLast?_eq_some_getLast hne]
    rw [this]; omega
section
variable (d : Tr → Nat) (pk : List Tr → Tr) (hd : ∀ (t : Tr) (us : List Tr), us.length = t.leaves → d (t.fill us) = d t + d (pk us))
def slD (p : Pr) : Int := (d p.1 : Int) - d p.2
include hd
theorem slD_red {p : Pr} (hp : okP p) : slD d (red p) = slD d p := by
  obtain ⟨h1, V, hV, he⟩ := red_exp _ p rfl hp
  have o := okP_leaves h1
  conv => rhs; rw [← he]
  unfold slD expE
  dsimp only
  rw [hd _ _ hV, hd _ _ (by omega)]
  omega
theorem slD_mul {p q : Pr} (hp : okP p) (hq : okP q) : slD d (mulP p q) = slD d p + slD d q := by
  unfold mulP
  rw [slD_red d pk hd (rawP_ok hp hq)]
  have s1 := below_carets p.2 _ (part_join p.2 q.1)
  have s2 := below_carets q.1 _ (part_join' p.2 q.1)
  have f1 := fill_subs p.2 _ (part_join p.2 q.1)
  have f2 := fill_subs q.1 _ (part_join' p.2 q.1)
  have o1 := okP_leaves hp
  have o2 := okP_leaves hq
  have g1 := hd p.2 _ s1.2
  have g2 := hd q.1 _ s2.2
  rw [f1] at g1
  rw [f2] at g2
  unfold slD rawP
  dsimp only
  rw [hd _ _ (by rw [s1.2, o1]), hd _ _ (by rw [s2.2, o2])]
  omega
end
theorem slD_inv (d : Tr → Nat) (p : Pr) : slD d (invP p) = - slD d p := by unfold slD invP; dsimp only; omega
theorem addrs_firstS (t : Tr) : ∀ h : ByteArray, ((t.addrs h).getD 0 ⟨#[]⟩).size = h.size + fdT t := by
  induction t with
  | lf => intro h; rfl
  | nd l r ihl _ =>
    intro h
    have e : ((Tr.nd l r).addrs h).getD 0 ⟨#[]⟩ = (l.addrs (h ++ ⟨#[48]⟩)).getD 0 ⟨#[]⟩ := by
      have := addrs_length l (h ++ ⟨#[48]⟩)
      rw [Tr.addrs]
      cases hl : l.addrs (h ++ ⟨#[48]⟩) with
      | nil => rw [hl] at this; simp at this
      | cons a L => rfl
    rw [e, ihl, ByteArray.size_append]
    show h.size + 1 + fdT l = h.size + (fdT l + 1)
    omega
theorem addrs_lastS (t : Tr) : ∀ h : ByteArray, ((t.addrs h).getD t.carets ⟨#[]⟩).size = h.size + edT t := by
  induction t with
  | lf => intro h; rfl
  | nd l r _ ihr =>
    intro h
    have e : ((Tr.nd l r).addrs h).getD (Tr.nd l r).carets ⟨#[]⟩ = (r.addrs (h ++ ⟨#[49]⟩)).getD r.carets ⟨#[]⟩ := by
      have := addrs_length l (h ++ ⟨#[48]⟩)
      rw [Tr.addrs, List.getD_eq_getElem?_getD, List.getD_eq_getElem?_getD, List.getElem?_append_right (by rw [this]; simp only [Tr.carets]; omega), this, show (Tr.nd l r).carets - (l.carets + 1) = r.carets by simp only [Tr.carets]; omega]
    rw [e, ihr, ByteArray.size_append]
    show h.size + 1 + edT r = h.size + (edT r + 1)
    omega
theorem slopes_first {p : Pr} (hp : okP p) : (slopes p).getD 0 0 = slD fdT p := by
  have l1 := addrs_length p.1 ⟨#[]⟩
  have l2 := addrs_length p.2 ⟨#[]⟩
  unfold okP at hp
  unfold slopes
  rw [slopesL_get _ _ (by omega) 0 (by omega), addrs_firstS, addrs_firstS]
  unfold slD
  show ((0 + fdT p.1 : Nat) : Int) - ((0 + fdT p.2 : Nat) : Int) = _
  omega
theorem slopes_last {p : Pr} (hp : okP p) : (slopes p).getD p.1.carets 0 = slD edT p := by
  have l1 := addrs_length p.1 ⟨#[]⟩
  have l2 := addrs_length p.2 ⟨#[]⟩
  unfold okP at hp
  unfold slopes
  rw [slopesL_get _ _ (by omega) _ (by omega), addrs_lastS, hp, addrs_lastS]
  unfold slD
  show ((0 + edT p.1 : Nat) : Int) - ((0 + edT p.2 : Nat) : Int) = _
  omega
theorem com_ends {p q : Pr} (hp : okP p) (hq : okP q) (d : Tr → Nat) (pk : List Tr → Tr) (hd : ∀ (t : Tr) (us : List Tr), us.length = t.leaves → d (t.fill us) = d t + d (pk us)) : slD d (mulP (mulP (invP p) (invP q)) (mulP p q)) = 0 := by
  rw [slD_mul d pk hd (mulP_ok (inv_ok hp) (inv_ok hq)) (mulP_ok hp hq), slD_mul d pk hd (inv_ok hp) (inv_ok hq), slD_mul d pk hd hp hq, slD_inv, slD_inv]
  omega
end Go.Proofs.YtjmbkieocmhmiaaGreat

/-! Inv -/
namespace Go.Proofs.YtjmbkieocmhmiaaGreat
open Go.RowKit

theorem prInverse_any (a b : ByteArray) (w : World) : Calls Tryz.prog 49 #[.agg #[.string a, .string b]] w (Gives (.agg #[.string b, .string a]) w) := by
  go_enter Tryz.func49, Tryz.ntmps49
  go_wp2
  refine bodyPost_ret (v := .agg #[.string b, .string a]) (by simp [results, Tryz.results49, go_sem]) rfl ⟨rfl, ?_⟩
  exact nxAlloc (nxAlloc (Below.refl _ _) _) _

theorem inverse_any (a b : ByteArray) (w : World) : Calls Tryz.prog 41 #[.agg #[.string a, .string b]] w (Gives (.agg #[.string b, .string a]) w) := by
  go_enter Tryz.func41, Tryz.ntmps41
  go_wp2
  refine bodyPost_ret (v := .agg #[.string b, .string a]) (by simp [results, Tryz.results41, go_sem]) rfl ⟨rfl, ?_⟩
  exact nxAlloc (nxAlloc (Below.refl _ _) _) _
end Go.Proofs.YtjmbkieocmhmiaaGreat

/-! WInversePair -/
namespace Go.Proofs.YtjmbkieocmhmiaaGreat
open Go.RowKit

set_option maxHeartbeats 1000000 in
theorem implInversePair_any (a b : ByteArray) (w : World) (ha : a.size ≤ 9223372036854775806) (hb : b.size ≤ 9223372036854775806) :
    Calls Tryz.prog 9 #[.agg #[.string a, .string b]] w (Gives (ansPr ((pairOf a b).bind fun p => some (invP p))) w) := by
  have hg := fun w => isPair_any a b w ha hb
  cases h : pairOf a b with
  | none =>
    rw [h] at hg
    clear h
    go_enter Tryz.func9, Tryz.ntmps9
    go_wp2_with fail
    have hb0 : Below w.heap.size w ((w.alloc (.cells #[.string a, .string b] 25 (0, 0))).alloc (.cells #[.string ⟨#[]⟩, .string ⟨#[]⟩] 25 (0, 0))) := nxAlloc (nxAlloc (Below.refl _ _) _) _
    have hx0 := heap_keep (nxAlloc (Below.refl _ _) (.cells #[.string ⟨#[]⟩, .string ⟨#[]⟩] 25 (0, 0))) (heap_alloc_at w (.cells #[.string a, .string b] 25 (0, 0)))
    have hx1 := heap_alloc_at (w.alloc (.cells #[.string a, .string b] 25 (0, 0))) (.cells #[.string ⟨#[]⟩, .string ⟨#[]⟩] 25 (0, 0))
    generalize ((w.alloc (.cells #[.string a, .string b] 25 (0, 0))).alloc (.cells #[.string ⟨#[]⟩, .string ⟨#[]⟩] 25 (0, 0))) = w0 at *
    have e1 : (w.alloc (.cells #[.string a, .string b] 25 (0, 0))).heap.size = w.heap.size + 1 := by simp
    rw [e1] at hx1
    clear e1
    obtain ⟨hx0a, hx0b, hx0c⟩ := two_facts hx0
    obtain ⟨hx0f, hx0g⟩ := two_frozen hx0
    obtain ⟨hx1a, hx1b, hx1c⟩ := two_facts hx1
    obtain ⟨hx1f, hx1g⟩ := two_frozen hx1
    refine (hg _).mono ?_; rintro e w1 ⟨rfl, hb1⟩
    have hbw1 := nx hb0 hb1
    replace hx0 := heap_keep hb1 hx0
    replace hx1 := heap_keep hb1 hx1
    clear hx0a hx0b hx0c hx0f hx0g
    obtain ⟨hx0a, hx0b, hx0c⟩ := two_facts hx0
    obtain ⟨hx0f, hx0g⟩ := two_frozen hx0
    clear hx1a hx1b hx1c hx1f hx1g
    obtain ⟨hx1a, hx1b, hx1c⟩ := two_facts hx1
    obtain ⟨hx1f, hx1g⟩ := two_frozen hx1
    clear hb1 hb0
    go_wp2_with fail
    obtain ⟨q1, q2⟩ := two_cells (set_two (.string ⟨#[]⟩) (.string ⟨#[]⟩) hx1)
    refine bodyPost_ret (v := .tuple #[.agg #[.string ⟨#[]⟩, .string ⟨#[]⟩], .bool false]) (by simp [q1, q2, results, Tryz.results9, go_sem]) rfl ⟨rfl, ?_⟩
    exact (hbw1.setCell (by show w.heap.size ≤ w.heap.size + 1; omega) _).setCell (by show w.heap.size ≤ w.heap.size + 1; omega) _
  | some p =>
    rw [h] at hg
    obtain ⟨rfl, rfl, hok, hc1, hc2⟩ := pairOf_some h
    clear h
    show Calls _ _ _ _ (Gives (ansPr (some (invP p))) w)
    go_enter Tryz.func9, Tryz.ntmps9
    go_wp2_with fail
    have hb0 : Below w.heap.size w ((w.alloc (.cells #[.string p.1.str, .string p.2.str] 25 (0, 0))).alloc (.cells #[.string ⟨#[]⟩, .string ⟨#[]⟩] 25 (0, 0))) := nxAlloc (nxAlloc (Below.refl _ _) _) _
    have hx0 := heap_keep (nxAlloc (Below.refl _ _) (.cells #[.string ⟨#[]⟩, .string ⟨#[]⟩] 25 (0, 0))) (heap_alloc_at w (.cells #[.string p.1.str, .string p.2.str] 25 (0, 0)))
    have hx1 := heap_alloc_at (w.alloc (.cells #[.string p.1.str, .string p.2.str] 25 (0, 0))) (.cells #[.string ⟨#[]⟩, .string ⟨#[]⟩] 25 (0, 0))
    generalize ((w.alloc (.cells #[.string p.1.str, .string p.2.str] 25 (0, 0))).alloc (.cells #[.string ⟨#[]⟩, .string ⟨#[]⟩] 25 (0, 0))) = w0 at *
    have e1 : (w.alloc (.cells #[.string p.1.str, .string p.2.str] 25 (0, 0))).heap.size = w.heap.size + 1 := by simp
    rw [e1] at hx1
    clear e1
    obtain ⟨hx0a, hx0b, hx0c⟩ := two_facts hx0
    obtain ⟨hx0f, hx0g⟩ := two_frozen hx0
    obtain ⟨hx1a, hx1b, hx1c⟩ := two_facts hx1
    obtain ⟨hx1f, hx1g⟩ := two_frozen hx1
    refine (hg _).mono ?_; rintro e w1 ⟨rfl, hb1⟩
    have hbw1 := nx hb0 hb1
    replace hx0 := heap_keep hb1 hx0
    replace hx1 := heap_keep hb1 hx1
    clear hx0a hx0b hx0c hx0f hx0g
    obtain ⟨hx0a, hx0b, hx0c⟩ := two_facts hx0
    obtain ⟨hx0f, hx0g⟩ := two_frozen hx0
    clear hx1a hx1b hx1c hx1f hx1g
    obtain ⟨hx1a, hx1b, hx1c⟩ := two_facts hx1
    obtain ⟨hx1f, hx1g⟩ := two_frozen hx1
    clear hb1 hb0
    go_wp2_with fail
    refine (inverse_any _ _ _).mono ?_; rintro e w2 ⟨rfl, hb2⟩
    have hbw2 := nx hbw1 hb2
    replace hx0 := heap_keep hb2 hx0
    replace hx1 := heap_keep hb2 hx1
    clear hx0a hx0b hx0c hx0f hx0g
    obtain ⟨hx0a, hx0b, hx0c⟩ := two_facts hx0
    obtain ⟨hx0f, hx0g⟩ := two_frozen hx0
    clear hx1a hx1b hx1c hx1f hx1g
    obtain ⟨hx1a, hx1b, hx1c⟩ := two_facts hx1
    obtain ⟨hx1f, hx1g⟩ := two_frozen hx1
    clear hb2 hbw1
    go_wp2_with fail
    obtain ⟨q1, q2⟩ := two_cells (set_two (.string p.2.str) (.string p.1.str) hx1)
    refine bodyPost_ret (v := .tuple #[.agg #[.string p.2.str, .string p.1.str], .bool true]) (by simp [q1, q2, results, Tryz.results9, go_sem]) rfl ⟨rfl, ?_⟩
    exact (hbw2.setCell (by show w.heap.size ≤ w.heap.size + 1; omega) _).setCell (by show w.heap.size ≤ w.heap.size + 1; omega) _

end Go.Proofs.YtjmbkieocmhmiaaGreat

/-! WMirrorTree -/
namespace Go.Proofs.YtjmbkieocmhmiaaGreat
open Go.RowKit

theorem implMirrorTree_no (s : ByteArray) (w : World) (hs : s.size ≤ 9223372036854775806) (h : treeOf s = none) :
    Calls Tryz.prog 42 #[.string s] w (Gives (ansV none) w) := by
  have H := Lib.hid h
  clear h
  go_enter Tryz.func42, Tryz.ntmps42
  go_wp2_with fail
  refine (read_no s _ hs H.out).mono ?_; rintro e w1 ⟨hb1, rfl⟩
  go_wp2_with fail
  go_ret2
  exact ⟨rfl, hb1⟩

set_option maxHeartbeats 400000 in
theorem implMirrorTree_yes (t : Tr) (w : World) (h : t.carets ≤ 8) :
    Calls Tryz.prog 42 #[.string t.str] w (Gives (ansV (some t.mir)) w) := by
  have hm := mir_carets t
  go_enter Tryz.func42, Tryz.ntmps42
  go_wp2_with fail
  refine (read_yes t _ h).mono ?_; rintro e w1 ⟨b1, hn1, hb1, rfl⟩
  go_wp2_with fail
  refine (mirrored_any t b1 _ hn1).mono ?_; rintro e w2 ⟨b2, hn2, hb2, rfl⟩
  go_wp2_with fail
  refine (text_any t.mir b2 _ hn2 (by omega)).mono ?_; rintro e w3 ⟨rfl, n, rfl⟩
  go_wp2_with fail
  go_ret2
  exact ⟨rfl, drewB (nx hb1 hb2) _⟩

def mirO (a : ByteArray) : Option Tr :=
  match treeOf a with
  | some t => some t.mir
  | none => none

theorem implMirrorTree_any (a : ByteArray) (w : World) (ha : a.size ≤ 9223372036854775806) :
    Calls Tryz.prog 42 #[.string a] w (Gives (ansV (mirO a)) w) := by
  cases h : treeOf a with
  | none =>
    rw [show mirO a = none by simp [mirO, h]]
    exact implMirrorTree_no a w ha h
  | some t =>
    obtain ⟨rfl, hc⟩ := treeOf_some h
    rw [show mirO t.str = some t.mir by simp [mirO, h]]
    exact implMirrorTree_yes t w hc

end Go.Proofs.YtjmbkieocmhmiaaGreat

/-! WMirrorPair -/
namespace Go.Proofs.YtjmbkieocmhmiaaGreat
open Go.RowKit

set_option maxHeartbeats 1000000 in
theorem implMirrorPair_any (a b : ByteArray) (w : World) (ha : a.size ≤ 9223372036854775806) (hb : b.size ≤ 9223372036854775806) :
    Calls Tryz.prog 10 #[.agg #[.string a, .string b]] w (Gives (ansPr ((pairOf a b).bind fun p => some (p.1.mir, p.2.mir))) w) := by
  have hg := fun w => isPair_any a b w ha hb
  cases h : pairOf a b with
  | none =>
    rw [h] at hg
    clear h
    go_enter Tryz.func10, Tryz.ntmps10
    go_wp2_with fail
    have hb0 : Below w.heap.size w ((w.alloc (.cells #[.string a, .string b] 25 (0, 0))).alloc (.cells #[.string ⟨#[]⟩, .string ⟨#[]⟩] 25 (0, 0))) := nxAlloc (nxAlloc (Below.refl _ _) _) _
    have hx0 := heap_keep (nxAlloc (Below.refl _ _) (.cells #[.string ⟨#[]⟩, .string ⟨#[]⟩] 25 (0, 0))) (heap_alloc_at w (.cells #[.string a, .string b] 25 (0, 0)))
    have hx1 := heap_alloc_at (w.alloc (.cells #[.string a, .string b] 25 (0, 0))) (.cells #[.string ⟨#[]⟩, .string ⟨#[]⟩] 25 (0, 0))
    generalize ((w.alloc (.cells #[.string a, .string b] 25 (0, 0))).alloc (.cells #[.string ⟨#[]⟩, .string ⟨#[]⟩] 25 (0, 0))) = w0 at *
    have e1 : (w.alloc (.cells #[.string a, .string b] 25 (0, 0))).heap.size = w.heap.size + 1 := by simp
    rw [e1] at hx1
    clear e1
    obtain ⟨hx0a, hx0b, hx0c⟩ := two_facts hx0
    obtain ⟨hx0f, hx0g⟩ := two_frozen hx0
    obtain ⟨hx1a, hx1b, hx1c⟩ := two_facts hx1
    obtain ⟨hx1f, hx1g⟩ := two_frozen hx1
    refine (hg _).mono ?_; rintro e w1 ⟨rfl, hb1⟩
    have hbw1 := nx hb0 hb1
    replace hx0 := heap_keep hb1 hx0
    replace hx1 := heap_keep hb1 hx1
    clear hx0a hx0b hx0c hx0f hx0g
    obtain ⟨hx0a, hx0b, hx0c⟩ := two_facts hx0
    obtain ⟨hx0f, hx0g⟩ := two_frozen hx0
    clear hx1a hx1b hx1c hx1f hx1g
    obtain ⟨hx1a, hx1b, hx1c⟩ := two_facts hx1
    obtain ⟨hx1f, hx1g⟩ := two_frozen hx1
    clear hb1 hb0
    go_wp2_with fail
    obtain ⟨q1, q2⟩ := two_cells (set_two (.string ⟨#[]⟩) (.string ⟨#[]⟩) hx1)
    refine bodyPost_ret (v := .tuple #[.agg #[.string ⟨#[]⟩, .string ⟨#[]⟩], .bool false]) (by simp [q1, q2, results, Tryz.results10, go_sem]) rfl ⟨rfl, ?_⟩
    exact (hbw1.setCell (by show w.heap.size ≤ w.heap.size + 1; omega) _).setCell (by show w.heap.size ≤ w.heap.size + 1; omega) _
  | some p =>
    rw [h] at hg
    obtain ⟨rfl, rfl, hok, hc1, hc2⟩ := pairOf_some h
    clear h
    show Calls _ _ _ _ (Gives (ansPr (some (p.1.mir, p.2.mir))) w)
    go_enter Tryz.func10, Tryz.ntmps10
    go_wp2_with fail
    have hb0 : Below w.heap.size w ((w.alloc (.cells #[.string p.1.str, .string p.2.str] 25 (0, 0))).alloc (.cells #[.string ⟨#[]⟩, .string ⟨#[]⟩] 25 (0, 0))) := nxAlloc (nxAlloc (Below.refl _ _) _) _
    have hx0 := heap_keep (nxAlloc (Below.refl _ _) (.cells #[.string ⟨#[]⟩, .string ⟨#[]⟩] 25 (0, 0))) (heap_alloc_at w (.cells #[.string p.1.str, .string p.2.str] 25 (0, 0)))
    have hx1 := heap_alloc_at (w.alloc (.cells #[.string p.1.str, .string p.2.str] 25 (0, 0))) (.cells #[.string ⟨#[]⟩, .string ⟨#[]⟩] 25 (0, 0))
    generalize ((w.alloc (.cells #[.string p.1.str, .string p.2.str] 25 (0, 0))).alloc (.cells #[.string ⟨#[]⟩, .string ⟨#[]⟩] 25 (0, 0))) = w0 at *
    have e1 : (w.alloc (.cells #[.string p.1.str, .string p.2.str] 25 (0, 0))).heap.size = w.heap.size + 1 := by simp
    rw [e1] at hx1
    clear e1
    obtain ⟨hx0a, hx0b, hx0c⟩ := two_facts hx0
    obtain ⟨hx0f, hx0g⟩ := two_frozen hx0
    obtain ⟨hx1a, hx1b, hx1c⟩ := two_facts hx1
    obtain ⟨hx1f, hx1g⟩ := two_frozen hx1
    refine (hg _).mono ?_; rintro e w1 ⟨rfl, hb1⟩
    have hbw1 := nx hb0 hb1
    replace hx0 := heap_keep hb1 hx0
    replace hx1 := heap_keep hb1 hx1
    clear hx0a hx0b hx0c hx0f hx0g
    obtain ⟨hx0a, hx0b, hx0c⟩ := two_facts hx0
    obtain ⟨hx0f, hx0g⟩ := two_frozen hx0
    clear hx1a hx1b hx1c hx1f hx1g
    obtain ⟨hx1a, hx1b, hx1c⟩ := two_facts hx1
    obtain ⟨hx1f, hx1g⟩ := two_frozen hx1
    clear hb1 hb0
    go_wp2_with fail
    have M1 : ∀ w, Calls Tryz.prog 42 #[.string p.1.str] w (Gives (.tuple #[.string p.1.mir.str, .bool true]) w) := fun w => implMirrorTree_yes p.1 w hc1
    have M2 : ∀ w, Calls Tryz.prog 42 #[.string p.2.str] w (Gives (.tuple #[.string p.2.mir.str, .bool true]) w) := fun w => implMirrorTree_yes p.2 w hc2
    refine (M1 _).mono ?_; rintro e w2 ⟨rfl, hb2⟩
    have hbw2 := nx hbw1 hb2
    replace hx0 := heap_keep hb2 hx0
    replace hx1 := heap_keep hb2 hx1
    clear hx0a hx0b hx0c hx0f hx0g
    obtain ⟨hx0a, hx0b, hx0c⟩ := two_facts hx0
    obtain ⟨hx0f, hx0g⟩ := two_frozen hx0
    clear hx1a hx1b hx1c hx1f hx1g
    obtain ⟨hx1a, hx1b, hx1c⟩ := two_facts hx1
    obtain ⟨hx1f, hx1g⟩ := two_frozen hx1
    clear hb2 hbw1
    go_wp2_with fail
    refine (M2 _).mono ?_; rintro e w3 ⟨rfl, hb3⟩
    have hbw3 := nx hbw2 hb3
    replace hx0 := heap_keep hb3 hx0
    replace hx1 := heap_keep hb3 hx1
    clear hx0a hx0b hx0c hx0f hx0g
    obtain ⟨hx0a, hx0b, hx0c⟩ := two_facts hx0
    obtain ⟨hx0f, hx0g⟩ := two_frozen hx0
    clear hx1a hx1b hx1c hx1f hx1g
    obtain ⟨hx1a, hx1b, hx1c⟩ := two_facts hx1
    obtain ⟨hx1f, hx1g⟩ := two_frozen hx1
    clear hb3 hbw2
    go_wp2_with fail
    obtain ⟨q1, q2⟩ := two_cells (set_two (.string p.1.mir.str) (.string p.2.mir.str) hx1)
    refine bodyPost_ret (v := .tuple #[.agg #[.string p.1.mir.str, .string p.2.mir.str], .bool true]) (by simp [q1, q2, results, Tryz.results10, go_sem]) rfl ⟨rfl, ?_⟩
    exact (hbw3.setCell (by show w.heap.size ≤ w.heap.size + 1; omega) _).setCell (by show w.heap.size ≤ w.heap.size + 1; omega) _

end Go.Proofs.YtjmbkieocmhmiaaGreat
