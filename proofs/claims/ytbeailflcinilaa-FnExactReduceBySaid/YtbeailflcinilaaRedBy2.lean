/- Walk: impl.reducedBy with the closure of ReduceBy. -/
import Derived.Test.YtbeailflcinilaaRedBy
namespace Go.Proofs.Ytbeailflcinilaa
open Go.RowKit

/-- A block of one cell. -/
theorem one_cell {w : World} {g : Nat} {u : Value} {t : TypeId} (h : w.heap[g]? = some (.cells #[u] t (0, 0))) : w.cell? ⟨g, 0, none⟩ = some u ∧ w.frozen? ⟨g, 0, none⟩ = false := by
  simp [World.cell?, World.frozen?, h]
theorem set_one {w : World} {g : Nat} {u : Value} (u' : Value) {t : TypeId} (h : w.heap[g]? = some (.cells #[u] t (0, 0))) : (w.setCell ⟨g, 0, none⟩ u').heap[g]? = some (.cells #[u'] t (0, 0)) := Joins.block_setCell h u'


set_option maxRecDepth 100000 in
set_option maxHeartbeats 1000000 in
theorem choose_any (bs bc : Nat) (oa : Option Addr) (cap : Nat) (cs : List Int) (j L : Nat) (w : World)
    (hs : w.heap[bs]? = some (.cells #[.int .i64 j] 3 (0, 0))) (hc : w.heap[bc]? = some (.cells #[.slice oa cs.length cap] 25 (0, 0))) (hne : bs ≠ bc)
    (hcc : ∀ i, i < cs.length → ∃ g, oa = some ⟨g, 0, none⟩ ∧ g ≠ bs ∧ w.cell? ⟨g, i, none⟩ = some (.int .i64 (cs.getD i 0))) (hcs : ∀ c ∈ cs, 0 ≤ c ∧ c ≤ 9223372036854775807) (hj : j ≤ cs.length) (hl : cs.length ≤ 1000) (hL : 0 < L) (hL9 : L ≤ 1000) :
    Calls Try.prog 60 #[.int .i64 L, .pointer (some ⟨bs, 0, none⟩), .pointer (some ⟨bc, 0, none⟩)] w fun e w' => e = .returned (.int .i64 (pickI (cs.drop j) L : Nat)) ∧ w' = (if j < cs.length then w.setCell ⟨bs, 0, none⟩ (.int .i64 (j + 1 : Nat)) else w) := by
  obtain ⟨s1, s2⟩ := one_cell hs
  obtain ⟨c1, c2⟩ := one_cell hc
  rw [pick_drop]
  by_cases hjc : j < cs.length
  · rw [if_pos hjc, if_pos hjc]
    obtain ⟨g, rfl, hg, e1⟩ := hcc j hjc
    obtain ⟨k1, k2⟩ := hcs (cs.getD j 0) (by rw [List.getD_eq_getElem?_getD, List.getElem?_eq_getElem hjc]; exact List.getElem_mem _)
    generalize cs.getD j 0 = c at *
    have hrem : Hid (c % (L : Int) = ((c % (L : Int)).toNat : Nat)) := by
      show _ = _
      have := Int.emod_nonneg c (show (L : Int) ≠ 0 by omega)
      omega
    have hjn : ((j : Int) == (cs.length : Int)) = false := by rw [beq_eq_false_iff_ne]; omega
    have hw2 : (w.setCell ⟨bs, 0, none⟩ (.int .i64 (j + 1 : Nat))).cell? ⟨bs, 0, none⟩ = some (.int .i64 (j + 1 : Nat)) := (one_cell (set_one _ hs)).1
    have hw3 : (w.setCell ⟨bs, 0, none⟩ (.int .i64 (j + 1 : Nat))).cell? ⟨bc, 0, none⟩ = some (.slice (some ⟨g, 0, none⟩) cs.length cap) := by
      rw [World.cell?_of_block (w := w) (Below.heap_setCell w ⟨bs, 0, none⟩ _ bc (Ne.symm hne))]; exact c1
    have hw4 : (w.setCell ⟨bs, 0, none⟩ (.int .i64 (j + 1 : Nat))).cell? ⟨g, j, none⟩ = some (.int .i64 c) := by
      rw [World.cell?_of_block (w := w) (Below.heap_setCell w ⟨bs, 0, none⟩ _ g hg)]; exact e1
    have ej : ((j + 1 : Nat) : Int) = (j : Int) + 1 := by omega
    rw [ej] at hw2 hw3 hw4 ⊢
    have hjl : (j : Int) < (cs.length : Int) := by omega
    clear hcc ej hs hc
    go_enter Try.func60, Try.ntmps60
    go_wp2_with fail
    go_ret
    exact ⟨ret_int hrem.out, rfl⟩
  · rw [if_neg hjc, if_neg hjc]
    obtain rfl : j = cs.length := by omega
    have hjn : ((cs.length : Int) == (cs.length : Int)) = true := by simp
    clear hcc
    go_enter Try.func60, Try.ntmps60
    go_wp2_with fail
    refine (firstOf_any _ _).mono ?_; rintro e w2 ⟨rfl, rfl⟩
    go_wp2_with fail
    go_ret
    exact ⟨rfl, rfl⟩

/-- Every block that was there, but for one, stands as it stood. -/
def Mild (b : Nat) (w w' : World) : Prop := ∀ k, k < w.heap.size → k ≠ b → w'.heap[k]? = w.heap[k]?
theorem Mild.below {b : Nat} {w w1 w2 : World} (h : Mild b w w1) (hs : w.heap.size ≤ w1.heap.size) (hb : Below w1.heap.size w1 w2) : Mild b w w2 :=
  fun k hk hn => (hb.block k (Nat.lt_of_lt_of_le hk hs)).trans (h k hk hn)
theorem Mild.setCell {b : Nat} {w w1 : World} (h : Mild b w w1) {a : Addr} (ha : a.block = b ∨ w.heap.size ≤ a.block) (u : Value) : Mild b w (w1.setCell a u) :=
  fun k hk hn => (Below.heap_setCell w1 a u k (by rcases ha with ha | ha <;> omega)).trans (h k hk hn)

set_option maxRecDepth 100000 in
set_option maxHeartbeats 4000000 in
theorem reducedBy_choice (p0 : Pr) (cs : List Int) (B0 bs bc : Nat) (oa : Option Addr) (cap : Nat) (w : World) (h1 : p0.1.carets ≤ 200) (h2 : p0.2.carets ≤ 200)
    (hs : w.heap[bs]? = some (.cells #[.int .i64 0] 3 (0, 0))) (hc : w.heap[bc]? = some (.cells #[.slice oa cs.length cap] 25 (0, 0))) (hne : bs ≠ bc) (hB : B0 ≤ bs) (hBw : B0 ≤ w.heap.size)
    (hcc : ∀ i, i < cs.length → ∃ g, oa = some ⟨g, 0, none⟩ ∧ g < B0 ∧ w.cell? ⟨g, i, none⟩ = some (.int .i64 (cs.getD i 0))) (hcs : ∀ c ∈ cs, 0 ≤ c ∧ c ≤ 9223372036854775807) (hl : cs.length ≤ 1000) :
    Calls Try.prog 57 #[.agg #[.string p0.1.str, .string p0.2.str], .func (Fn.func 60) #[] #[.pointer (some ⟨bs, 0, none⟩), .pointer (some ⟨bc, 0, none⟩)]] w fun e w' => e = .returned (.agg #[.string (redBy p0 cs).1.str, .string (redBy p0 cs).2.str]) ∧ Below B0 w w' ∧ Mild bs w w' := by
  have hlts := lt_of_block hs
  have hltc := lt_of_block hc
  go_enter Try.func57, Try.ntmps57
  go_wp2_with fail
  have hb0 : Below w.heap.size w ((w.alloc (.cells #[.string p0.1.str, .string p0.2.str] 35 (0, 0))).alloc (.cells #[.string ⟨#[]⟩, .string ⟨#[]⟩] 35 (0, 0))) := nxAlloc (nxAlloc (Below.refl _ _) _) _
  have hx1 := heap_keep (nxAlloc (Below.refl _ _) (.cells #[.string ⟨#[]⟩, .string ⟨#[]⟩] 35 (0, 0))) (heap_alloc_at w (.cells #[.string p0.1.str, .string p0.2.str] 35 (0, 0)))
  have hx2 := heap_alloc_at (w.alloc (.cells #[.string p0.1.str, .string p0.2.str] 35 (0, 0))) (.cells #[.string ⟨#[]⟩, .string ⟨#[]⟩] 35 (0, 0))
  generalize (w.alloc (.cells #[.string p0.1.str, .string p0.2.str] 35 (0, 0))).alloc (.cells #[.string ⟨#[]⟩, .string ⟨#[]⟩] 35 (0, 0)) = w0 at *
  have e2 : (w.alloc (.cells #[.string p0.1.str, .string p0.2.str] 35 (0, 0))).heap.size = w.heap.size + 1 := by simp
  rw [e2] at hx2
  clear e2
  have hs0 : w.heap.size + 1 < w0.heap.size := lt_of_block hx2
  have hS0 := heap_keep hb0 hs
  have hC0 := heap_keep hb0 hc
  have hb00 : Below B0 w w0 := hb0.mono hBw
  have hM0 : Mild bs w w0 := fun k hk _ => hb0.block k hk
  clear hb0 hs hc
  go_loopw [5] (fun _ wr => ∃ (p : Pr) (j : Nat), wr.heap[w.heap.size]? = some (.cells #[.string p.1.str, .string p.2.str] 35 (0, 0)) ∧ wr.heap[w.heap.size + 1]? = some (.cells #[.string ⟨#[]⟩, .string ⟨#[]⟩] 35 (0, 0)) ∧ wr.heap[bs]? = some (.cells #[.int .i64 (j : Int)] 3 (0, 0)) ∧ wr.heap[bc]? = some (.cells #[.slice oa cs.length cap] 25 (0, 0)) ∧ Below B0 w wr ∧ Mild bs w wr ∧ w.heap.size + 2 ≤ wr.heap.size ∧ j ≤ cs.length ∧ p.1.carets ≤ 200 ∧ p.2.carets ≤ 200 ∧ Hid (redBy p0 cs = redBy p (cs.drop j))) (fun _ wr => sizeAt wr w.heap.size)
  case atStart => exact ⟨p0, 0, hx1, hx2, hS0, hC0, hb00, hM0, hs0, Nat.zero_le _, h1, h2, rfl⟩
  case round =>
    obtain ⟨p, j, hy1, hy2, hS, hC, hbw, hM, hsz, hj, hp1, hp2, he⟩ := hrel
    have HS1 := Lib.hid (sizeAt_of hy1)
    obtain ⟨k1, k2⟩ := two_cells hy1
    go_wp2_with fail
    refine (sharedExposed_tr p _ hp1 hp2).mono ?_; rintro e w1 ⟨v5, own, hb1, rfl⟩
    have hz1 := heap_keep hb1 hy1
    have hz2 := heap_keep hb1 hy2
    replace hS := heap_keep hb1 hS
    replace hC := heap_keep hb1 hC
    have hbw1 : Below B0 w w1 := hbw.trans (hb1.mono (Nat.le_trans hBw (Nat.le_trans (Nat.le_add_right _ 2) hsz)))
    replace hM := hM.below (by omega) hb1
    have hsz1 := Nat.le_trans hsz hb1.size
    have hown : OwnI (w.heap.size + 2) w1 v5 (both p) := own.mono hsz
    have hf := hown.cells.form
    clear own hb1 hbw hsz k1 k2 hy1 hy2 hown
    obtain ⟨k1, k2⟩ := two_cells hz1
    obtain ⟨ob, bcap, rfl, hbc, hbm, hbcell⟩ := hf
    unfold maxLen at hbm
    by_cases hl : (both p).length = 0
    · have hnil : both p = [] := List.length_eq_zero_iff.1 hl
      have he' := he.out
      rw [redBy_end hnil] at he'
      have HE := Lib.hid he'
      rw [hl]
      obtain ⟨n1, n2⟩ := two_cells hz2
      obtain ⟨f1, f2⟩ := two_frozen hz2
      clear hl hnil he he' hbcell
      go_wp2_with fail
      obtain ⟨r1, r2⟩ := two_cells (set_two (.string p.1.str) (.string p.2.str) hz2)
      refine bodyPost_ret (v := .agg #[.string p.1.str, .string p.2.str]) (by simp [r1, r2, results, Try.results57, go_sem]) rfl ⟨by rw [HE.out], ?_⟩
      exact ⟨(hbw1.setCell (by show B0 ≤ w.heap.size + 1; omega) _).setCell (by show B0 ≤ w.heap.size + 1; omega) _, (hM.setCell (.inr (by show w.heap.size ≤ w.heap.size + 1; omega)) _).setCell (.inr (by show w.heap.size ≤ w.heap.size + 1; omega)) _⟩
    · -- a step
      have hlp : 0 < (both p).length := by omega
      have hlp' : (((both p).length : Int) == 0) = false := by rw [beq_eq_false_iff_ne]; omega
      have hpi := pickI_lt (cs.drop j) (both p).length hlp
      have hl9 : (both p).length ≤ 1000 := Nat.le_trans (both_length p) (by omega)
      have hCH := choose_any bs bc oa cap cs j (both p).length w1 hS hC hne (fun i hi => by
        obtain ⟨g, e1, e2, e3⟩ := hcc i hi
        exact ⟨g, e1, by omega, (hbw1.cell (p := ⟨g, i, none⟩) e2).trans e3⟩) hcs hj (by omega) hlp hl9
      obtain ⟨i, hi⟩ : ∃ i, i = pickI (cs.drop j) (both p).length := ⟨_, rfl⟩
      rw [← hi] at hpi hCH
      have hst := redBy_pick (cs.drop j) i hlp hi
      obtain ⟨m1, m2, hx0, hx9⟩ := both_in p hp1 i hpi
      obtain ⟨g, rfl, hg0, hg1, c1⟩ := hbcell i hpi
      obtain ⟨x, hx⟩ : ∃ x, x = (both p).getD i 0 := ⟨_, rfl⟩
      rw [← hx] at hst m1 m2 c1 hx0 hx9
      have hstep := Lib.hid hst
      have T1 := fun w => withoutExposed_tr p.1 x w (by omega) m1
      have T2 := fun w => withoutExposed_tr p.2 x w (by omega) m2
      obtain ⟨hd1, hd2⟩ := dropP_carets (p := p) (n := x) (mem_both.2 ⟨m1, m2⟩)
      generalize hL : (both p).length = L at *
      have HL := Lib.hid hL
      have hlq : (0 : Int) < (L : Int) := by omega
      clear hL hx hst m1 m2 hbcell hl hi
      go_wp2_with fail
      refine hCH.mono ?_; rintro e w2 ⟨rfl, hw2⟩
      -- what the choice has left
      obtain ⟨j', hj', hjd, hS2, hz1b, hz2b, hC2, hbw2, hM2, hsz2, c2⟩ : ∃ j' : Nat, j' ≤ cs.length ∧ cs.drop j' = (cs.drop j).tail ∧ w2.heap[bs]? = some (.cells #[.int .i64 (j' : Int)] 3 (0, 0)) ∧ w2.heap[w.heap.size]? = some (.cells #[.string p.1.str, .string p.2.str] 35 (0, 0)) ∧ w2.heap[w.heap.size + 1]? = some (.cells #[.string ⟨#[]⟩, .string ⟨#[]⟩] 35 (0, 0)) ∧ w2.heap[bc]? = some (.cells #[.slice oa cs.length cap] 25 (0, 0)) ∧ Below B0 w w2 ∧ Mild bs w w2 ∧ w.heap.size + 2 ≤ w2.heap.size ∧ w2.cell? ⟨g, i, none⟩ = some (.int .i64 x) := by
        by_cases hjc : j < cs.length
        · rw [if_pos hjc] at hw2
          subst hw2
          refine ⟨j + 1, hjc, (List.tail_drop).symm, set_one _ hS, ?_, ?_, ?_, hbw1.setCell (p := ⟨bs, 0, none⟩) hB _, hM.setCell (.inl rfl) _, by simpa using hsz1, ?_⟩
          · rw [Below.heap_setCell _ _ _ _ (by show ¬ w.heap.size = bs; omega)]; exact hz1
          · rw [Below.heap_setCell _ _ _ _ (by show ¬ w.heap.size + 1 = bs; omega)]; exact hz2
          · rw [Below.heap_setCell _ _ _ _ (by show ¬ bc = bs; omega)]; exact hC
          · rw [World.cell?_of_block (w := w1) (Below.heap_setCell w1 ⟨bs, 0, none⟩ _ g (by show ¬ g = bs; omega))]; exact c1
        · rw [if_neg hjc] at hw2
          subst hw2
          refine ⟨j, hj, ?_, hS, hz1, hz2, hC, hbw1, hM, hsz1, c1⟩
          rw [List.drop_of_length_le (by omega)]; rfl
      have HJ := Lib.hid hjd
      clear hw2 hCH hS hC hz1 hz2 hbw1 hM hsz1 c1 k1 k2 hjd
      obtain ⟨k1, k2⟩ := two_cells hz1b
      obtain ⟨f1, f2⟩ := two_frozen hz1b
      go_wp2_with fail
      refine (T1 _).mono ?_; rintro e w3 ⟨rfl, hb3⟩
      have hz1 := heap_keep hb3 hz1b
      have hz2 := heap_keep hb3 hz2b
      replace hS2 := heap_keep hb3 hS2
      replace hC2 := heap_keep hb3 hC2
      have hbw3 : Below B0 w w3 := hbw2.trans (hb3.mono (Nat.le_trans hBw (Nat.le_trans (Nat.le_add_right _ 2) hsz2)))
      have hM3 := hM2.below (by omega) hb3
      have hsz3 := Nat.le_trans hsz2 hb3.size
      clear c2 k1 k2 f1 f2 hb3 hz1b hz2b hbw2 hsz2
      obtain ⟨n1, n2⟩ := two_cells hz1
      obtain ⟨f1, f2⟩ := two_frozen hz1
      go_wp2_with fail
      have hr1 := set_first (u' := .string (p.1.dropAt x).str) hz1
      have hr2 : (w3.setCell ⟨w.heap.size, 0, none⟩ (.string (p.1.dropAt x).str)).heap[w.heap.size + 1]? = some (.cells #[.string ⟨#[]⟩, .string ⟨#[]⟩] 35 (0, 0)) := by
        rw [Below.heap_setCell _ _ _ _ (by show ¬ w.heap.size + 1 = w.heap.size; omega)]; exact hz2
      have hr3 : (w3.setCell ⟨w.heap.size, 0, none⟩ (.string (p.1.dropAt x).str)).heap[bs]? = some (.cells #[.int .i64 (j' : Int)] 3 (0, 0)) := by
        rw [Below.heap_setCell _ _ _ _ (by show ¬ bs = w.heap.size; omega)]; exact hS2
      have hr4 : (w3.setCell ⟨w.heap.size, 0, none⟩ (.string (p.1.dropAt x).str)).heap[bc]? = some (.cells #[.slice oa cs.length cap] 25 (0, 0)) := by
        rw [Below.heap_setCell _ _ _ _ (by show ¬ bc = w.heap.size; omega)]; exact hC2
      have hbw4 : Below B0 w (w3.setCell ⟨w.heap.size, 0, none⟩ (.string (p.1.dropAt x).str)) := hbw3.setCell hBw _
      have hM4 : Mild bs w (w3.setCell ⟨w.heap.size, 0, none⟩ (.string (p.1.dropAt x).str)) := hM3.setCell (.inr (Nat.le_refl _)) _
      have hsz4 : w.heap.size + 2 ≤ (w3.setCell ⟨w.heap.size, 0, none⟩ (.string (p.1.dropAt x).str)).heap.size := by simpa using hsz3
      generalize w3.setCell ⟨w.heap.size, 0, none⟩ (.string (p.1.dropAt x).str) = w4 at *
      clear hz1 hz2 n1 n2 f1 f2 hbw3 hM2 hM3 hsz3 hS2 hC2
      refine (T2 _).mono ?_; rintro e w5 ⟨rfl, hb5⟩
      have hz1 := heap_keep hb5 hr1
      have hz2 := heap_keep hb5 hr2
      have hz3 := heap_keep hb5 hr3
      have hz4 := heap_keep hb5 hr4
      have hbw5 : Below B0 w w5 := hbw4.trans (hb5.mono (Nat.le_trans hBw (Nat.le_trans (Nat.le_add_right _ 2) hsz4)))
      have hM5 := hM4.below (by omega) hb5
      have hsz5 := Nat.le_trans hsz4 hb5.size
      obtain ⟨n1, n2⟩ := two_cells hz1
      obtain ⟨f1, f2⟩ := two_frozen hz1
      clear hr1 hr2 hr3 hr4 hbw4 hsz4 hb5
      go_wp2_with fail
      have hu1 := set_second (v' := .string (p.2.dropAt x).str) hz1
      have hu2 : (w5.setCell ⟨w.heap.size, 1, none⟩ (.string (p.2.dropAt x).str)).heap[w.heap.size + 1]? = some (.cells #[.string ⟨#[]⟩, .string ⟨#[]⟩] 35 (0, 0)) := by
        rw [Below.heap_setCell _ _ _ _ (by show ¬ w.heap.size + 1 = w.heap.size; omega)]; exact hz2
      have hu3 : (w5.setCell ⟨w.heap.size, 1, none⟩ (.string (p.2.dropAt x).str)).heap[bs]? = some (.cells #[.int .i64 (j' : Int)] 3 (0, 0)) := by
        rw [Below.heap_setCell _ _ _ _ (by show ¬ bs = w.heap.size; omega)]; exact hz3
      have hu4 : (w5.setCell ⟨w.heap.size, 1, none⟩ (.string (p.2.dropAt x).str)).heap[bc]? = some (.cells #[.slice oa cs.length cap] 25 (0, 0)) := by
        rw [Below.heap_setCell _ _ _ _ (by show ¬ bc = w.heap.size; omega)]; exact hz4
      have hbw6 : Below B0 w (w5.setCell ⟨w.heap.size, 1, none⟩ (.string (p.2.dropAt x).str)) := hbw5.setCell hBw _
      have hM6 : Mild bs w (w5.setCell ⟨w.heap.size, 1, none⟩ (.string (p.2.dropAt x).str)) := hM5.setCell (.inr (Nat.le_refl _)) _
      have hsz6 : w.heap.size + 2 ≤ (w5.setCell ⟨w.heap.size, 1, none⟩ (.string (p.2.dropAt x).str)).heap.size := by simpa using hsz5
      go_roundw
      case rel => exact ⟨dropP p x, j', hu1, hu2, hu3, hu4, hbw6, hM6, hsz6, hj', by omega, by omega, by show _ = _; rw [he.out, hstep.out, HJ.out]⟩
      case measure =>
        rw [sizeAt_of hu1, HS1.out, Tr.str_size, Tr.str_size]
        have hd1' : (p.1.dropAt x).carets + 1 = p.1.carets := hd1
        omega
end Go.Proofs.Ytbeailflcinilaa
