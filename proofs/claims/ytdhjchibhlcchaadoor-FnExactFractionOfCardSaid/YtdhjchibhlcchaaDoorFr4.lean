/- Walks: impl.fractionAt, (Fraction).steps. -/
import Derived.Test.YtdhjchibhlcchaaDoorFr3
namespace Go.Proofs.YtdhjchibhlcchaaDoor
open Go.RowKit

theorem pow_even {j : Nat} (h : 1 < 2 ^ j) : ∃ i, 2 ^ j = 2 * 2 ^ i ∧ i < j := by
  cases j with
  | zero => simp at h
  | succ i => exact ⟨i, by rw [Nat.pow_succ]; omega, by omega⟩
theorem half_step {W n s p : Nat} (h : n * W = s * (2 * p)) (hev : n % 2 = 0) : n / 2 * W = s * p := by
  obtain ⟨m, rfl⟩ : ∃ m, n = 2 * m := ⟨n / 2, by omega⟩
  have e : 2 * m / 2 = m := by omega
  rw [e]
  refine Nat.eq_of_mul_eq_mul_left (show 0 < 2 by omega) ?_
  rw [← Nat.mul_assoc, h]
  ac_rfl
theorem frA_end {s n d j : Nat} (h : n * 1048576 = s * d) (hd : d = 2 ^ j) (ho : ¬ 1 < d ∨ n % 2 = 1) : frA s = if isFr n d = true then some (n, d) else none := by
  have hp : 0 < d := by rw [hd]; exact Nat.pow_pos (by omega)
  have e : frOf s = (n, d) := by
    rw [frOf_even h hp]
    apply short_self
    rcases ho with ho | ho
    · obtain rfl : d = 1 := by omega
      exact Nat.gcd_one_right _
    · rw [hd]; exact gcd_odd_pow ho j
  unfold frA
  rw [e]
set_option maxHeartbeats 2000000 in
theorem fractionAt_any (s : Nat) (w : World) (hs : (s : Int) ≤ 4611686018427387904) :
    Calls Tryd.prog 18 #[.int .i64 s] w (Gives (ansF (frA s)) w) := by
  go_enter Tryd.func18, Tryd.ntmps18
  go_wp2_with fail
  have hb0 : Below w.heap.size w ((w.alloc (.cells #[.int .i64 0, .int .i64 0] 23 (0, 0))).alloc (.cells #[.int .i64 s, .int .i64 1048576] 23 (0, 0))) := nxAlloc (nxAlloc (Below.refl _ _) _) _
  have hx0 := heap_keep (nxAlloc (Below.refl _ _) (.cells #[.int .i64 s, .int .i64 1048576] 23 (0, 0))) (heap_alloc_at w (.cells #[.int .i64 0, .int .i64 0] 23 (0, 0)))
  have hx1 := heap_alloc_at (w.alloc (.cells #[.int .i64 0, .int .i64 0] 23 (0, 0))) (.cells #[.int .i64 s, .int .i64 1048576] 23 (0, 0))
  generalize ((w.alloc (.cells #[.int .i64 0, .int .i64 0] 23 (0, 0))).alloc (.cells #[.int .i64 s, .int .i64 1048576] 23 (0, 0))) = w0 at *
  have e1 : (w.alloc (.cells #[.int .i64 0, .int .i64 0] 23 (0, 0))).heap.size = w.heap.size + 1 := by simp
  rw [e1] at hx1
  clear e1
  obtain ⟨hx0a, hx0b, hx0c⟩ := two_facts hx0
  obtain ⟨hx0f, hx0g⟩ := two_frozen hx0
  obtain ⟨hx1a, hx1b, hx1c⟩ := two_facts hx1
  obtain ⟨hx1f, hx1g⟩ := two_frozen hx1
  clear hx0a hx0b hx0c hx0f hx0g hx1a hx1b hx1c hx1f hx1g
  go_loopw [] (fun wr => ∃ n d j : Nat, wr.heap[w.heap.size + 1]? = some (.cells #[.int .i64 n, .int .i64 d] 23 (0, 0)) ∧ wr.heap[w.heap.size]? = some (.cells #[.int .i64 0, .int .i64 0] 23 (0, 0)) ∧ Below w.heap.size w wr ∧ (n : Int) ≤ 4611686018427387904 ∧ d = 2 ^ j ∧ j ≤ 20 ∧ Hid (n * 1048576 = s * d)) (fun wr => (intOf ((wr.cell? ⟨w.heap.size + 1, 1, none⟩).getD undef)).toNat)
  case atStart => exact ⟨s, 1048576, 20, hx1, hx0, hb0, hs, rfl, by omega, rfl⟩
  case round =>
    obtain ⟨n, d, j, hx1, hx0, hbw, hn, hd, hj, he⟩ := hrel
    obtain ⟨ka, kb, kc⟩ := two_facts hx1
    obtain ⟨kf, kg⟩ := two_frozen hx1
    have hdl : d ≤ 2 ^ 20 := by rw [hd]; exact Nat.pow_le_pow_right (by omega) hj
    have HJ := Lib.hid hd
    clear hd
    by_cases hlt : 1 < d
    · obtain ⟨i, hi1, hi2⟩ := pow_even (j := j) (by have := HJ.out; omega)
      have hd2 : d = 2 * 2 ^ i := by rw [HJ.out, hi1]
      have hdh : d / 2 = 2 ^ i := by omega
      have HD2 := Lib.hid hd2
      have HDH := Lib.hid hdh
      clear hi1 hd2 hdh
      by_cases hev : n % 2 = 0
      · go_wp2_with fail
        go_roundw
        case rel =>
          refine ⟨n / 2, d / 2, i, set_two _ _ hx1, (Below.heap_setCell _ _ _ _ (by show w.heap.size ≠ w.heap.size + 1; omega)).trans ((Below.heap_setCell _ _ _ _ (by show w.heap.size ≠ w.heap.size + 1; omega)).trans hx0), (hbw.setCell (by show w.heap.size ≤ w.heap.size + 1; omega) _).setCell (by show w.heap.size ≤ w.heap.size + 1; omega) _, by omega, HDH.out, by omega, ?_⟩
          have h1 := he.out
          rw [HD2.out] at h1
          have h2 := half_step h1 hev
          rw [← HDH.out] at h2
          exact h2
        case measure =>
          have c1 := (two_cells (set_two (.int .i64 ((n : Int) / 2)) (.int .i64 ((d : Int) / 2)) hx1)).2
          rw [c1, kb]
          simp [intOf]
          omega
      · have hA := frA_end he.out HJ.out (.inr (by omega))
        have hg := fun w => isFraction_any n d w
        cases hf : isFr n d with
        | false =>
          rw [hf] at hg hA
          rw [if_neg (by simp)] at hA
          have HA := Lib.hid hA
          clear hA hf he
          go_wp2_with fail
          refine (hg _).mono ?_; rintro e w1 ⟨rfl, hb1⟩
          have hx0' := heap_keep hb1 hx0
          have hbw1 := nx hbw hb1
          obtain ⟨q3, q4⟩ := two_frozen hx0'
          obtain ⟨q5, q6, q7⟩ := two_facts hx0'
          go_wp2_with fail
          rw [HA.out]
          obtain ⟨q1, q2⟩ := two_cells (set_two (.int .i64 0) (.int .i64 0) hx0')
          refine bodyPost_ret (v := .tuple #[.agg #[.int .i64 0, .int .i64 0], .bool false]) (by simp [q1, q2, results, Tryd.results18, go_sem]) rfl ⟨rfl, ?_⟩
          exact (hbw1.setCell (by show w.heap.size ≤ w.heap.size; omega) _).setCell (by show w.heap.size ≤ w.heap.size; omega) _
        | true =>
          rw [hf] at hg hA
          rw [if_pos rfl] at hA
          have HA := Lib.hid hA
          clear hA hf he
          go_wp2_with fail
          refine (hg _).mono ?_; rintro e w1 ⟨rfl, hb1⟩
          have hx0' := heap_keep hb1 hx0
          have hx1' := heap_keep hb1 hx1
          have hbw1 := nx hbw hb1
          obtain ⟨q3, q4⟩ := two_frozen hx0'
          obtain ⟨q5, q6, q7⟩ := two_facts hx0'
          obtain ⟨r5, r6, r7⟩ := two_facts hx1'
          go_wp2_with fail
          rw [HA.out]
          obtain ⟨q1, q2⟩ := two_cells (set_two (.int .i64 n) (.int .i64 d) hx0')
          refine bodyPost_ret (v := .tuple #[.agg #[.int .i64 n, .int .i64 d], .bool true]) (by simp [q1, q2, results, Tryd.results18, go_sem]) rfl ⟨rfl, ?_⟩
          exact (hbw1.setCell (by show w.heap.size ≤ w.heap.size; omega) _).setCell (by show w.heap.size ≤ w.heap.size; omega) _
    · have hA := frA_end he.out HJ.out (.inl hlt)
      have hg := fun w => isFraction_any n d w
      cases hf : isFr n d with
      | false =>
        rw [hf] at hg hA
        rw [if_neg (by simp)] at hA
        have HA := Lib.hid hA
        clear hA hf he
        go_wp2_with fail
        refine (hg _).mono ?_; rintro e w1 ⟨rfl, hb1⟩
        have hx0' := heap_keep hb1 hx0
        have hbw1 := nx hbw hb1
        obtain ⟨q3, q4⟩ := two_frozen hx0'
        obtain ⟨q5, q6, q7⟩ := two_facts hx0'
        go_wp2_with fail
        rw [HA.out]
        obtain ⟨q1, q2⟩ := two_cells (set_two (.int .i64 0) (.int .i64 0) hx0')
        refine bodyPost_ret (v := .tuple #[.agg #[.int .i64 0, .int .i64 0], .bool false]) (by simp [q1, q2, results, Tryd.results18, go_sem]) rfl ⟨rfl, ?_⟩
        exact (hbw1.setCell (by show w.heap.size ≤ w.heap.size; omega) _).setCell (by show w.heap.size ≤ w.heap.size; omega) _
      | true =>
        rw [hf] at hg hA
        rw [if_pos rfl] at hA
        have HA := Lib.hid hA
        clear hA hf he
        go_wp2_with fail
        refine (hg _).mono ?_; rintro e w1 ⟨rfl, hb1⟩
        have hx0' := heap_keep hb1 hx0
        have hx1' := heap_keep hb1 hx1
        have hbw1 := nx hbw hb1
        obtain ⟨q3, q4⟩ := two_frozen hx0'
        obtain ⟨q5, q6, q7⟩ := two_facts hx0'
        obtain ⟨r5, r6, r7⟩ := two_facts hx1'
        go_wp2_with fail
        rw [HA.out]
        obtain ⟨q1, q2⟩ := two_cells (set_two (.int .i64 n) (.int .i64 d) hx0')
        refine bodyPost_ret (v := .tuple #[.agg #[.int .i64 n, .int .i64 d], .bool true]) (by simp [q1, q2, results, Tryd.results18, go_sem]) rfl ⟨rfl, ?_⟩
        exact (hbw1.setCell (by show w.heap.size ≤ w.heap.size; omega) _).setCell (by show w.heap.size ≤ w.heap.size; omega) _
end Go.Proofs.YtdhjchibhlcchaaDoor
