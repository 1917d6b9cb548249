/- Walks: spec.prReduce. -/
import Derived.Test.YtkoebmdocenlkaaForm
import Derived.Test.YtkoebmdocenlkaaBoth
import Derived.Test.YtkoebmdocenlkaaDrop
import Derived.Test.YtkoebmdocenlkaaPairOf
import Derived.Lib.SmallJoins
namespace Go.Proofs.Ytkoebmdocenlkaa
open Go.RowKit

theorem trDrop_tr (t : Tr) (n : Int) (w : World) (ht : t.carets ≤ 300) (hn : n ∈ t.exps 0) :
    Calls Try.prog 94 #[.string t.str, .int .i64 n] w (Gives (.string (t.dropAt n).str) w) := by
  obtain ⟨h1, h2⟩ := drop_str t n hn
  obtain ⟨q, hp, hq, _, h0⟩ := dropB_true ((dropB_str t n).2 hn)
  have hr := exps_range t 0 n hn
  have hz := t.str_size
  have := trDrop_any t.str n q w (by omega) h0 (by simp [Tr.leaves] at hr; omega) hp hq
  rw [← h2, hp]
  have e : ((q : Int) + 1).toNat - 1 = q := by omega
  rw [e]
  exact this

theorem withoutExposed_tr (t : Tr) (n : Int) (w : World) (ht : t.carets ≤ 300) (hn : n ∈ t.exps 0) :
    Calls Try.prog 119 #[.string t.str, .int .i64 n] w (Gives (.tuple #[.string (t.dropAt n).str, .bool true]) w) := by
  obtain ⟨h1, h2⟩ := drop_str t n hn
  have hr := exps_range t 0 n hn
  have hz := t.str_size
  simp [Tr.leaves] at hr
  have := withoutExposed_any t.str n w (by omega) (by omega) (by omega)
  unfold dropO at this
  rw [if_pos ((dropB_str t n).2 hn), h2] at this
  exact this

/-- How long the first text of a block is. -/
def sizeAt (w : World) (b : Nat) : Nat := match w.heap[b]? with
  | some (.cells cs _ _) => match cs[0]? with
    | some (Value.string s) => s.size
    | _ => 0
  | _ => 0
theorem sizeAt_of {w : World} {b : Nat} {s u : ByteArray} {t : TypeId} (h : w.heap[b]? = some (.cells #[.string s, .string u] t (0, 0))) : sizeAt w b = s.size := by
  simp [sizeAt, h]

theorem pick_drop (cs : List Int) (j k : Nat) : pickI (cs.drop j) k = if j < cs.length then (cs.getD j 0 % k).toNat else 0 := by
  by_cases h : j < cs.length
  · rw [if_pos h, List.drop_eq_getElem_cons h]
    simp [pickI, h]
  · rw [if_neg h, List.drop_of_length_le (by omega)]
    rfl

theorem both_in (p : Pr) (h : p.1.carets ≤ 200) (i : Nat) (hi : i < (both p).length) : (both p).getD i 0 ∈ p.1.exps 0 ∧ (both p).getD i 0 ∈ p.2.exps 0 ∧ 0 ≤ (both p).getD i 0 ∧ (both p).getD i 0 ≤ 200 := by
  have hm : (both p).getD i 0 ∈ both p := by
    rw [List.getD_eq_getElem?_getD, List.getElem?_eq_getElem hi]
    exact List.getElem_mem _
  have h1 := mem_both.1 hm
  have hr := exps_range p.1 0 _ h1.1
  simp only [Tr.leaves] at hr
  exact ⟨h1.1, h1.2, by omega, by omega⟩

theorem redBy_pick {p : Pr} (cs : List Int) (i : Nat) (hl : 0 < (both p).length) (hi : i = pickI cs (both p).length) : redBy p cs = redBy (dropP p ((both p).getD i 0)) cs.tail := by
  cases h : both p with
  | nil => rw [h] at hl; simp at hl
  | cons n ns =>
    rw [redBy_step h, hi, h]
    rfl

set_option maxRecDepth 100000 in
set_option maxHeartbeats 2000000 in
theorem prReduce_any (p0 : Pr) (v : Value) (cs : List Int) (b1 : Nat) (w : World) (h1 : p0.1.carets ≤ 200) (h2 : p0.2.carets ≤ 200) (hv : CellsI b1 w v cs) (hcs : ∀ c ∈ cs, 0 ≤ c ∧ c ≤ 9223372036854775807) :
    Calls Try.prog 63 #[.agg #[.string p0.1.str, .string p0.2.str], v] w (Gives (.agg #[.string (redBy p0 cs).1.str, .string (redBy p0 cs).2.str]) w) := by
  have hB : ∀ (p : Pr) w, p.1.carets ≤ 200 → p.2.carets ≤ 200 → Calls Try.prog 93 #[.agg #[.string p.1.str, .string p.2.str]] w (GivesInts (both p) w) := by
    intro p w k1 k2
    have := prBoth_any p.1.str p.2.str w (by have := p.1.str_size; omega) (by have := p.2.str_size; omega)
    rwa [bothL_str] at this
  obtain ⟨oa, ccap, rfl, hcl, hcm, hcc⟩ := hv.form
  unfold maxLen at hcm
  clear hv
  go_enter Try.func63, Try.ntmps63
  go_wp2_with fail
  have hb0 : Below w.heap.size w ((w.alloc (.cells #[.string p0.1.str, .string p0.2.str] 34 (0, 0))).alloc (.cells #[.string ⟨#[]⟩, .string ⟨#[]⟩] 34 (0, 0))) := nxAlloc (nxAlloc (Below.refl _ _) _) _
  have hx1 := heap_keep (nxAlloc (Below.refl _ _) (.cells #[.string ⟨#[]⟩, .string ⟨#[]⟩] 34 (0, 0))) (heap_alloc_at w (.cells #[.string p0.1.str, .string p0.2.str] 34 (0, 0)))
  have hx2 := heap_alloc_at (w.alloc (.cells #[.string p0.1.str, .string p0.2.str] 34 (0, 0))) (.cells #[.string ⟨#[]⟩, .string ⟨#[]⟩] 34 (0, 0))
  generalize (w.alloc (.cells #[.string p0.1.str, .string p0.2.str] 34 (0, 0))).alloc (.cells #[.string ⟨#[]⟩, .string ⟨#[]⟩] 34 (0, 0)) = w0 at *
  have e2 : (w.alloc (.cells #[.string p0.1.str, .string p0.2.str] 34 (0, 0))).heap.size = w.heap.size + 1 := by simp
  rw [e2] at hx2
  clear e2
  have hs0 : w.heap.size + 1 < w0.heap.size := lt_of_block hx2
  refine (hB p0 _ h1 h2).mono ?_; rintro e w1 ⟨v6, own, hb1, rfl⟩
  have hb01 := nx hb0 hb1
  have hy1 := heap_keep hb1 hx1
  have hy2 := heap_keep hb1 hx2
  have own' : OwnI (w.heap.size + 2) w1 v6 (both p0) := own.mono hs0
  have hs1 : w.heap.size + 2 ≤ w1.heap.size := Nat.le_trans hs0 hb1.size
  clear own hx1 hx2 hb0 hb1 hs0
  go_wp2_with fail
  go_loopw [5, 6] (fun s b wr => ∃ (p : Pr) (j : Nat), s = .int .i64 j ∧ OwnI (w.heap.size + 2) wr b (both p) ∧ wr.heap[w.heap.size]? = some (.cells #[.string p.1.str, .string p.2.str] 34 (0, 0)) ∧ wr.heap[w.heap.size + 1]? = some (.cells #[.string ⟨#[]⟩, .string ⟨#[]⟩] 34 (0, 0)) ∧ Below w.heap.size w wr ∧ w.heap.size + 2 ≤ wr.heap.size ∧ j + p.1.carets ≤ 200 ∧ p.2.carets ≤ 200 ∧ Hid (redBy p0 cs = redBy p (cs.drop j))) (fun _ _ wr => sizeAt wr w.heap.size)
  case atStart => exact ⟨p0, 0, rfl, own', hy1, hy2, hb01, hs1, by omega, h2, rfl⟩
  case round =>
    obtain ⟨p, j, rfl, hown, hy1, hy2, hbw, hsz, hj, hp2, he⟩ := hrel
    have hf := hown.cells.form
    by_cases hl : (both p).length = 0
    · have hnil : both p = [] := List.length_eq_zero_iff.1 hl
      have he' := he.out
      rw [redBy_end hnil] at he'
      have HE := Lib.hid he'
      obtain ⟨ob, bcap, rfl, _, _, _⟩ := hf
      rw [hl]
      have hl2 := two_cells hy1
      obtain ⟨k1, k2⟩ := hl2
      obtain ⟨n1, n2⟩ := two_cells hy2
      obtain ⟨f1, f2⟩ := two_frozen hy2
      clear hl hnil he he' hown
      go_wp2_with fail
      obtain ⟨r1, r2⟩ := two_cells (set_two (.string p.1.str) (.string p.2.str) hy2)
      refine bodyPost_ret (v := .agg #[.string p.1.str, .string p.2.str]) (by simp [r1, r2, results, Try.results63, go_sem]) rfl ⟨by rw [HE.out], ?_⟩
      exact (hbw.setCell (by simp) _).setCell (by simp) _
    · -- a step
      have hlp : 0 < (both p).length := by omega
      have hlp' : (0 : Int) < ((both p).length : Int) := by omega
      have hpi := pickI_lt (cs.drop j) (both p).length hlp
      obtain ⟨i, hi⟩ : ∃ i, i = pickI (cs.drop j) (both p).length := ⟨_, rfl⟩
      rw [← hi] at hpi
      have hst := redBy_pick (cs.drop j) i hlp hi
      rw [pick_drop] at hi
      obtain ⟨m1, m2, _, _⟩ := both_in p (by omega) i hpi
      obtain ⟨ob, bcap, rfl, hbc, hbm, hbcell⟩ := hf
      unfold maxLen at hbm
      obtain ⟨g, rfl, hg0, hg1, c1⟩ := hbcell i hpi
      obtain ⟨x, hx⟩ : ∃ x, x = (both p).getD i 0 := ⟨_, rfl⟩
      rw [← hx] at hst m1 m2 c1
      have hstep := Lib.hid hst
      have T1 := fun w => trDrop_tr p.1 x w (by omega) m1
      have T2 := fun w => trDrop_tr p.2 x w (by omega) m2
      have hdc := dropP_carets (p := p) (n := x) (mem_both.2 ⟨m1, m2⟩)
      obtain ⟨hd1, hd2⟩ := hdc
      have HS1 := Lib.hid (sizeAt_of hy1)
      obtain ⟨k1, k2⟩ := two_cells hy1
      have hB1 : w.heap.size < wr.heap.size := by omega
      generalize hL : (both p).length = L at *
      have HL := Lib.hid hL
      clear hL hx hst m1 m2 hbcell hl hown
      by_cases hjc : j < cs.length
      · rw [if_pos hjc] at hi
        obtain ⟨g2, rfl, _, hg2, c2⟩ := hcc j hjc
        have c2' := (hbw.cell (p := ⟨g2, j, none⟩) hg2).trans c2
        have hcb := hcs (cs.getD j 0) (by rw [List.getD_eq_getElem?_getD, List.getElem?_eq_getElem hjc]; exact List.getElem_mem _)
        obtain ⟨hc0, hc9⟩ := hcb
        generalize cs.getD j 0 = c at *
        have hrem : c % (L : Int) = (i : Int) := by
          have := Int.emod_nonneg c (show (L : Int) ≠ 0 by omega)
          omega
        have hjc' : (j : Int) < (cs.length : Int) := by omega
        have hpi' : (i : Int) < (L : Int) := by omega
        clear hi hcc c2
        go_wp2_with fail
        refine wp_region_clsT 15 (by kernel_rfl) (by kernel_rfl) ?_
        simp only [List.take_succ_cons, List.take_zero, List.drop_succ_cons, List.drop_zero]
        repeat (
          refine wpQuiet_step (fun K hK => ?_)
          go_simp
          first
            | (refine hK _ ?_; clear hK K)
            | (refine ⟨_, fun _ _ => rfl, hK _ ?_⟩; clear hK K)
            | (apply Exists.intro
               refine ⟨fun w' hw' => ?_, hK _ ?_⟩
               · first
                   | (rw [hw'.cell hB1 k1]; exact ⟨rfl, rfl⟩)
                   | (rw [hw'.cell hB1 k2]; exact ⟨rfl, rfl⟩)
                   | (rw [hw'.cell hg1 c1]; exact ⟨rfl, rfl⟩)
                   | (go_at_call 94; first | (with_reducible exact hw'.call (T1 _)) | (with_reducible exact hw'.call (T2 _)))
               clear hK K))
        refine wpQuiet_nil ?_
        intro w' hw'
        have hbw' := nx hbw hw'
        have hz1 := heap_keep hw' hy1
        have hz2 := heap_keep hw' hy2
        obtain ⟨n1, n2⟩ := two_cells hz1
        obtain ⟨f1, f2⟩ := two_frozen hz1
        have hsz' := Nat.le_trans hsz hw'.size
        clear hbw hw' hy1 hy2 k1 k2 c1
        go_wp2_with fail
        have hr1 := set_two (.string (p.1.dropAt x).str) (.string (p.2.dropAt x).str) hz1
        have hr2 : ((w'.setCell ⟨w.heap.size, 0, none⟩ (.string (p.1.dropAt x).str)).setCell ⟨w.heap.size, 1, none⟩ (.string (p.2.dropAt x).str)).heap[w.heap.size + 1]? = some (.cells #[.string ⟨#[]⟩, .string ⟨#[]⟩] 34 (0, 0)) := by
          rw [Below.heap_setCell _ _ _ _ (by simp), Below.heap_setCell _ _ _ _ (by simp)]; exact hz2
        have hbw2 : Below w.heap.size w ((w'.setCell ⟨w.heap.size, 0, none⟩ (.string (p.1.dropAt x).str)).setCell ⟨w.heap.size, 1, none⟩ (.string (p.2.dropAt x).str)) := (hbw'.setCell (Nat.le_refl _) _).setCell (Nat.le_refl _) _
        have hsz2 : w.heap.size + 2 ≤ ((w'.setCell ⟨w.heap.size, 0, none⟩ (.string (p.1.dropAt x).str)).setCell ⟨w.heap.size, 1, none⟩ (.string (p.2.dropAt x).str)).heap.size := by simpa using hsz'
        generalize (w'.setCell ⟨w.heap.size, 0, none⟩ (.string (p.1.dropAt x).str)).setCell ⟨w.heap.size, 1, none⟩ (.string (p.2.dropAt x).str) = w3 at *
        obtain ⟨n1', n2'⟩ := two_cells hr1
        refine (hB (dropP p x) _ (by omega) (by omega)).mono ?_; rintro e w4 ⟨v7, own7, hb4, rfl⟩
        have hu1 := heap_keep hb4 hr1
        have hu2 := heap_keep hb4 hr2
        have own8 : OwnI (w.heap.size + 2) w4 v7 (both (dropP p x)) := own7.mono hsz2
        have hbw4 := nx hbw2 hb4
        have hsz4 := Nat.le_trans hsz2 hb4.size
        clear own7 hb4 hr1 hr2 hbw2 hsz2 n1' n2'
        go_wp2_with fail
        go_roundw
        case rel => exact ⟨dropP p x, j + 1, by go_num, own8, hu1, hu2, hbw4, hsz4, by omega, by omega, by show _ = _; rw [he.out, hstep.out, List.tail_drop]⟩
        case measure =>
          rw [sizeAt_of hu1, HS1.out, Tr.str_size, Tr.str_size]
          have hd1' : (p.1.dropAt x).carets + 1 = p.1.carets := hd1
          omega
      · rw [if_neg hjc] at hi
        subst hi
        have hjc' : ¬ (j : Int) < (cs.length : Int) := by omega
        clear hcc
        go_wp2_with fail
        refine wp_region_clsT 15 (by kernel_rfl) (by kernel_rfl) ?_
        simp only [List.take_succ_cons, List.take_zero, List.drop_succ_cons, List.drop_zero]
        repeat (
          refine wpQuiet_step (fun K hK => ?_)
          go_simp
          first
            | (refine hK _ ?_; clear hK K)
            | (refine ⟨_, fun _ _ => rfl, hK _ ?_⟩; clear hK K)
            | (apply Exists.intro
               refine ⟨fun w' hw' => ?_, hK _ ?_⟩
               · first
                   | (rw [hw'.cell hB1 k1]; exact ⟨rfl, rfl⟩)
                   | (rw [hw'.cell hB1 k2]; exact ⟨rfl, rfl⟩)
                   | (rw [hw'.cell hg1 c1]; exact ⟨rfl, rfl⟩)
                   | (go_at_call 94; first | (with_reducible exact hw'.call (T1 _)) | (with_reducible exact hw'.call (T2 _)))
               clear hK K))
        refine wpQuiet_nil ?_
        intro w' hw'
        have hbw' := nx hbw hw'
        have hz1 := heap_keep hw' hy1
        have hz2 := heap_keep hw' hy2
        obtain ⟨n1, n2⟩ := two_cells hz1
        obtain ⟨f1, f2⟩ := two_frozen hz1
        have hsz' := Nat.le_trans hsz hw'.size
        clear hbw hw' hy1 hy2 k1 k2 c1
        go_wp2_with fail
        have hr1 := set_two (.string (p.1.dropAt x).str) (.string (p.2.dropAt x).str) hz1
        have hr2 : ((w'.setCell ⟨w.heap.size, 0, none⟩ (.string (p.1.dropAt x).str)).setCell ⟨w.heap.size, 1, none⟩ (.string (p.2.dropAt x).str)).heap[w.heap.size + 1]? = some (.cells #[.string ⟨#[]⟩, .string ⟨#[]⟩] 34 (0, 0)) := by
          rw [Below.heap_setCell _ _ _ _ (by simp), Below.heap_setCell _ _ _ _ (by simp)]; exact hz2
        have hbw2 : Below w.heap.size w ((w'.setCell ⟨w.heap.size, 0, none⟩ (.string (p.1.dropAt x).str)).setCell ⟨w.heap.size, 1, none⟩ (.string (p.2.dropAt x).str)) := (hbw'.setCell (Nat.le_refl _) _).setCell (Nat.le_refl _) _
        have hsz2 : w.heap.size + 2 ≤ ((w'.setCell ⟨w.heap.size, 0, none⟩ (.string (p.1.dropAt x).str)).setCell ⟨w.heap.size, 1, none⟩ (.string (p.2.dropAt x).str)).heap.size := by simpa using hsz'
        generalize (w'.setCell ⟨w.heap.size, 0, none⟩ (.string (p.1.dropAt x).str)).setCell ⟨w.heap.size, 1, none⟩ (.string (p.2.dropAt x).str) = w3 at *
        obtain ⟨n1', n2'⟩ := two_cells hr1
        refine (hB (dropP p x) _ (by omega) (by omega)).mono ?_; rintro e w4 ⟨v7, own7, hb4, rfl⟩
        have hu1 := heap_keep hb4 hr1
        have hu2 := heap_keep hb4 hr2
        have own8 : OwnI (w.heap.size + 2) w4 v7 (both (dropP p x)) := own7.mono hsz2
        have hbw4 := nx hbw2 hb4
        have hsz4 := Nat.le_trans hsz2 hb4.size
        clear own7 hb4 hr1 hr2 hbw2 hsz2 n1' n2'
        go_wp2_with fail
        go_roundw
        case rel => exact ⟨dropP p x, j + 1, by go_num, own8, hu1, hu2, hbw4, hsz4, by omega, by omega, by show _ = _; rw [he.out, hstep.out, List.tail_drop]⟩
        case measure =>
          rw [sizeAt_of hu1, HS1.out, Tr.str_size, Tr.str_size]
          have hd1' : (p.1.dropAt x).carets + 1 = p.1.carets := hd1
          omega
end Go.Proofs.Ytkoebmdocenlkaa
