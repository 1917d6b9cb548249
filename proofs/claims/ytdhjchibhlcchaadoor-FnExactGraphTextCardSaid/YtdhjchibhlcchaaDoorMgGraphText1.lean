/- Texts that the claim needs, part 2. -/
import Derived.Test.YtdhjchibhlcchaaDoorMgGraphText0
import Derived.Test.YtdhjchibhlcchaaDoorRows
import Derived.WalkKit
import Derived.Deep.Light
import Derived.Deep.RegionWith
import Derived.Deep.RegionHeld3
import Derived.Deep.AppendLies
import Derived.Laws.IdiomStrings
import Derived.Lib.ItoaNum
import Derived.Shelf.Strconv.Itoa0
import Derived.Shelf.Strconv.Itoa1
import Derived.Shelf.LaysM
import Derived.Shelf.Strconv.Itoa2
import Derived.Shelf.Strconv.Itoa3
import Derived.Test.YtdhjchibhlcchaaDoorProg
import Derived.Lib.AppendIntMem
import Derived.Shelf.SlSorted.Search
import Derived.Lib.Bytealg
/-! Fr3 -/
namespace Go.Proofs.YtdhjchibhlcchaaDoor
open Go.RowKit

def pop1 (d : Int) : Int := IntKind.u64.wrap (bits BinOp.and IntKind.u64 (d / 2) 6148914691236517205 + bits BinOp.and IntKind.u64 d 6148914691236517205)
def pop2 (x : Int) : Int := IntKind.u64.wrap (bits BinOp.and IntKind.u64 (x / 4) 3689348814741910323 + bits BinOp.and IntKind.u64 x 3689348814741910323)
def pop3 (x : Int) : Int := bits BinOp.and IntKind.u64 (IntKind.u64.wrap (x / 16 + x)) 1085102592571150095
def pop4 (x : Int) : Int := IntKind.u64.wrap (x + x / 256)
def pop5 (x : Int) : Int := IntKind.u64.wrap (x + x / 65536)
def pop6 (x : Int) : Int := IntKind.u64.wrap (x + x / 4294967296)
/-- How many ones, as math/bits counts them. -/
def pop (d : Int) : Int := bits BinOp.and IntKind.i64 (wrap64 (pop6 (pop5 (pop4 (pop3 (pop2 (pop1 d))))))) 127
set_option maxRecDepth 100000 in
theorem pop_isP2 : ∀ d : Fin 1025, 0 < d.val → ((pop (d.val : Int) == 1) = isP2 (d.val : Int)) := by decide +kernel
theorem pop_ne {d : Int} (h0 : 1 ≤ d) (h1 : d ≤ 1024) : (pop d != 1) = !isP2 d := by
  have := pop_isP2 ⟨d.toNat, by omega⟩ (by show 0 < d.toNat; omega)
  have e : ((d.toNat : Nat) : Int) = d := by omega
  simp only [e] at this
  rw [bne, this]

set_option maxHeartbeats 2000000 in
theorem onesCount64_any (d : Int) (w : World) (_h0 : 1 ≤ d) (_h : d ≤ 1024) :
    Calls Tryd.prog 80 #[.int .u64 d] w (Gives (.int .i64 (pop d)) w) := by
  go_enter Tryd.func80, Tryd.ntmps80
  go_wp2_with fail
  go_ret
  refine ⟨ret_int ?_, Below.refl _ _⟩
  rfl
set_option maxHeartbeats 2000000 in
theorem onesCount_any (d : Int) (w : World) (h0 : 1 ≤ d) (h : d ≤ 1024) :
    Calls Tryd.prog 65 #[.int .u64 d] w (Gives (.int .i64 (pop d)) w) := by
  have ho := fun w => onesCount64_any d w h0 h
  generalize pop d = r at *
  go_enter Tryd.func65, Tryd.ntmps65
  go_wp2_with fail
  refine (ho _).mono ?_; rintro e w1 ⟨rfl, hb1⟩
  go_wp2_with fail
  go_ret
  exact ⟨rfl, hb1⟩

set_option maxHeartbeats 2000000 in
theorem isFraction_any (n d : Int) (w : World) :
    Calls Tryd.prog 35 #[.agg #[.int .i64 n, .int .i64 d]] w (Gives (.bool (isFr n d)) w) := by
  by_cases h1 : d < 1
  · have e : isFr n d = false := by rw [Bool.eq_false_iff, Ne, isFr_iff]; intro h; have := isP2_bounds h.1; omega
    rw [e]
    clear e
    go_enter Tryd.func35, Tryd.ntmps35
    go_wp2_with fail
    have hb0 : Below w.heap.size w (w.alloc (.cells #[.int .i64 n, .int .i64 d] 23 (0, 0))) := nxAlloc (Below.refl _ _) _
    have hx0 := heap_alloc_at w (.cells #[.int .i64 n, .int .i64 d] 23 (0, 0))
    generalize (w.alloc (.cells #[.int .i64 n, .int .i64 d] 23 (0, 0))) = w0 at *
    obtain ⟨hx0a, hx0b, hx0c⟩ := two_facts hx0
    obtain ⟨hx0f, hx0g⟩ := two_frozen hx0
    go_ret
    exact ⟨rfl, hb0⟩
  · by_cases h2 : 1024 < d
    · have e : isFr n d = false := by rw [Bool.eq_false_iff, Ne, isFr_iff]; intro h; have := isP2_bounds h.1; omega
      rw [e]
      clear e
      go_enter Tryd.func35, Tryd.ntmps35
      go_wp2_with fail
      have hb0 : Below w.heap.size w (w.alloc (.cells #[.int .i64 n, .int .i64 d] 23 (0, 0))) := nxAlloc (Below.refl _ _) _
      have hx0 := heap_alloc_at w (.cells #[.int .i64 n, .int .i64 d] 23 (0, 0))
      generalize (w.alloc (.cells #[.int .i64 n, .int .i64 d] 23 (0, 0))) = w0 at *
      obtain ⟨hx0a, hx0b, hx0c⟩ := two_facts hx0
      obtain ⟨hx0f, hx0g⟩ := two_frozen hx0
      go_ret
      exact ⟨rfl, hb0⟩
    · have hp := pop_ne (d := d) (by omega) (by omega)
      have ho := fun w => onesCount_any d w (by omega) (by omega)
      cases hq : isP2 d with
      | false =>
        rw [hq] at hp
        have hp' : (pop d != 1) = true := hp
        have e : isFr n d = false := by unfold isFr; rw [hq]; rfl
        rw [e]
        clear e hp hq
        generalize pop d = r at *
        go_enter Tryd.func35, Tryd.ntmps35
        go_wp2_with fail
        have hb0 : Below w.heap.size w (w.alloc (.cells #[.int .i64 n, .int .i64 d] 23 (0, 0))) := nxAlloc (Below.refl _ _) _
        have hx0 := heap_alloc_at w (.cells #[.int .i64 n, .int .i64 d] 23 (0, 0))
        generalize (w.alloc (.cells #[.int .i64 n, .int .i64 d] 23 (0, 0))) = w0 at *
        obtain ⟨hx0a, hx0b, hx0c⟩ := two_facts hx0
        obtain ⟨hx0f, hx0g⟩ := two_frozen hx0
        refine (ho _).mono ?_; rintro e w1 ⟨rfl, hb1⟩
        have hbw1 := nx hb0 hb1
        replace hx0 := heap_keep hb1 hx0
        clear hx0a hx0b hx0c hx0f hx0g
        obtain ⟨hx0a, hx0b, hx0c⟩ := two_facts hx0
        obtain ⟨hx0f, hx0g⟩ := two_frozen hx0
        clear hb1 hb0
        go_wp2_with fail
        go_ret
        exact ⟨rfl, hbw1⟩
      | true =>
        rw [hq] at hp
        have hp' : (pop d != 1) = false := hp
        obtain ⟨R, hR⟩ : ∃ R, R = isFr n d := ⟨_, rfl⟩
        rw [← hR]
        have e : isFr n d = (decide (0 ≤ n) && (decide (n ≤ d) && (decide (d = 1) || decide (n % 2 = 1)))) := by unfold isFr; rw [hq, Bool.true_and]
        rw [e] at hR
        clear e hp hq
        generalize pop d = r at *
        by_cases h3 : 0 ≤ n
        · by_cases h4 : n ≤ d
          · rw [decide_eq_true h3, decide_eq_true h4, Bool.true_and, Bool.true_and] at hR
            by_cases hd : d = 1
            · have hd0 : (d == 1) = true := by rw [beq_iff_eq]; exact hd
              rw [decide_eq_true hd, Bool.true_or] at hR
              have HR := Lib.hid hR
              clear hd hR
              go_enter Tryd.func35, Tryd.ntmps35
              go_wp2_with fail
              have hb0 : Below w.heap.size w (w.alloc (.cells #[.int .i64 n, .int .i64 d] 23 (0, 0))) := nxAlloc (Below.refl _ _) _
              have hx0 := heap_alloc_at w (.cells #[.int .i64 n, .int .i64 d] 23 (0, 0))
              generalize (w.alloc (.cells #[.int .i64 n, .int .i64 d] 23 (0, 0))) = w0 at *
              obtain ⟨hx0a, hx0b, hx0c⟩ := two_facts hx0
              obtain ⟨hx0f, hx0g⟩ := two_frozen hx0
              refine (ho _).mono ?_; rintro e w1 ⟨rfl, hb1⟩
              have hbw1 := nx hb0 hb1
              replace hx0 := heap_keep hb1 hx0
              clear hx0a hx0b hx0c hx0f hx0g
              obtain ⟨hx0a, hx0b, hx0c⟩ := two_facts hx0
              obtain ⟨hx0f, hx0g⟩ := two_frozen hx0
              clear hb1 hb0
              go_wp2_with fail
              go_ret
              refine ⟨ret_bool ?_, hbw1⟩
              first | (rw [HR.out]; done) | (rw [HR.out]; rfl)
            · have hd0 : (d == 1) = false := by rw [beq_eq_false_iff_ne]; exact hd
              rw [decide_eq_false hd, Bool.false_or] at hR
              have HR := Lib.hid hR
              clear hd hR
              go_enter Tryd.func35, Tryd.ntmps35
              go_wp2_with fail
              have hb0 : Below w.heap.size w (w.alloc (.cells #[.int .i64 n, .int .i64 d] 23 (0, 0))) := nxAlloc (Below.refl _ _) _
              have hx0 := heap_alloc_at w (.cells #[.int .i64 n, .int .i64 d] 23 (0, 0))
              generalize (w.alloc (.cells #[.int .i64 n, .int .i64 d] 23 (0, 0))) = w0 at *
              obtain ⟨hx0a, hx0b, hx0c⟩ := two_facts hx0
              obtain ⟨hx0f, hx0g⟩ := two_frozen hx0
              refine (ho _).mono ?_; rintro e w1 ⟨rfl, hb1⟩
              have hbw1 := nx hb0 hb1
              replace hx0 := heap_keep hb1 hx0
              clear hx0a hx0b hx0c hx0f hx0g
              obtain ⟨hx0a, hx0b, hx0c⟩ := two_facts hx0
              obtain ⟨hx0f, hx0g⟩ := two_frozen hx0
              clear hb1 hb0
              go_wp2_with fail
              go_ret
              refine ⟨ret_bool ?_, hbw1⟩
              first | (rw [HR.out]; done) | (rw [HR.out]; rfl)
          · rw [decide_eq_false h4, Bool.false_and, Bool.and_false] at hR
            have HR := Lib.hid hR
            clear hR
            go_enter Tryd.func35, Tryd.ntmps35
            go_wp2_with fail
            have hb0 : Below w.heap.size w (w.alloc (.cells #[.int .i64 n, .int .i64 d] 23 (0, 0))) := nxAlloc (Below.refl _ _) _
            have hx0 := heap_alloc_at w (.cells #[.int .i64 n, .int .i64 d] 23 (0, 0))
            generalize (w.alloc (.cells #[.int .i64 n, .int .i64 d] 23 (0, 0))) = w0 at *
            obtain ⟨hx0a, hx0b, hx0c⟩ := two_facts hx0
            obtain ⟨hx0f, hx0g⟩ := two_frozen hx0
            refine (ho _).mono ?_; rintro e w1 ⟨rfl, hb1⟩
            have hbw1 := nx hb0 hb1
            replace hx0 := heap_keep hb1 hx0
            clear hx0a hx0b hx0c hx0f hx0g
            obtain ⟨hx0a, hx0b, hx0c⟩ := two_facts hx0
            obtain ⟨hx0f, hx0g⟩ := two_frozen hx0
            clear hb1 hb0
            go_wp2_with fail
            go_ret
            refine ⟨ret_bool ?_, hbw1⟩
            first | (rw [HR.out]; done) | (rw [HR.out]; rfl)
        · rw [decide_eq_false h3, Bool.false_and] at hR
          have HR := Lib.hid hR
          clear hR
          go_enter Tryd.func35, Tryd.ntmps35
          go_wp2_with fail
          have hb0 : Below w.heap.size w (w.alloc (.cells #[.int .i64 n, .int .i64 d] 23 (0, 0))) := nxAlloc (Below.refl _ _) _
          have hx0 := heap_alloc_at w (.cells #[.int .i64 n, .int .i64 d] 23 (0, 0))
          generalize (w.alloc (.cells #[.int .i64 n, .int .i64 d] 23 (0, 0))) = w0 at *
          obtain ⟨hx0a, hx0b, hx0c⟩ := two_facts hx0
          obtain ⟨hx0f, hx0g⟩ := two_frozen hx0
          refine (ho _).mono ?_; rintro e w1 ⟨rfl, hb1⟩
          have hbw1 := nx hb0 hb1
          replace hx0 := heap_keep hb1 hx0
          clear hx0a hx0b hx0c hx0f hx0g
          obtain ⟨hx0a, hx0b, hx0c⟩ := two_facts hx0
          obtain ⟨hx0f, hx0g⟩ := two_frozen hx0
          clear hb1 hb0
          go_wp2_with fail
          go_ret
          refine ⟨ret_bool ?_, hbw1⟩
          first | (rw [HR.out]; done) | (rw [HR.out]; rfl)
end Go.Proofs.YtdhjchibhlcchaaDoor

/-! Fr4 -/
namespace Go.Proofs.YtdhjchibhlcchaaDoor
open Go.RowKit

theorem pow_even {j : Nat} (h : 1 < 2 ^ j) : ∃ i, 2 ^ j = 2 * 2 ^ i ∧ i < j := by
  cases j with
  | zero => simp at h
  | succ i => exact ⟨i, by rw [Nat.pow_succ]; omega, by omega⟩
theorem half_step {W n s p : Nat} (h : n * W = s * (2 * p)) (hev : n % 2 = 0) : n / 2 * W = s * p := by
  obtain ⟨m, rfl⟩ : ∃ m, n = 2 * m := ⟨n / 2, by omega⟩
  have e : 2 * m / 2 = m := by omega
  rw [e]
  refine Nat.eq_of_mul_eq_mul_left (show 0 < 2 by omega) ?_
  rw [← Nat.mul_assoc, h]
  ac_rfl
theorem frA_end {s n d j : Nat} (h : n * 1048576 = s * d) (hd : d = 2 ^ j) (ho : ¬ 1 < d ∨ n % 2 = 1) : frA s = if isFr n d = true then some (n, d) else none := by
  have hp : 0 < d := by rw [hd]; exact Nat.pow_pos (by omega)
  have e : frOf s = (n, d) := by
    rw [frOf_even h hp]
    apply short_self
    rcases ho with ho | ho
    · obtain rfl : d = 1 := by omega
      exact Nat.gcd_one_right _
    · rw [hd]; exact gcd_odd_pow ho j
  unfold frA
  rw [e]
set_option maxHeartbeats 2000000 in
theorem fractionAt_any (s : Nat) (w : World) (hs : (s : Int) ≤ 4611686018427387904) :
    Calls Tryd.prog 18 #[.int .i64 s] w (Gives (ansF (frA s)) w) := by
  go_enter Tryd.func18, Tryd.ntmps18
  go_wp2_with fail
  have hb0 : Below w.heap.size w ((w.alloc (.cells #[.int .i64 0, .int .i64 0] 23 (0, 0))).alloc (.cells #[.int .i64 s, .int .i64 1048576] 23 (0, 0))) := nxAlloc (nxAlloc (Below.refl _ _) _) _
  have hx0 := heap_keep (nxAlloc (Below.refl _ _) (.cells #[.int .i64 s, .int .i64 1048576] 23 (0, 0))) (heap_alloc_at w (.cells #[.int .i64 0, .int .i64 0] 23 (0, 0)))
  have hx1 := heap_alloc_at (w.alloc (.cells #[.int .i64 0, .int .i64 0] 23 (0, 0))) (.cells #[.int .i64 s, .int .i64 1048576] 23 (0, 0))
  generalize ((w.alloc (.cells #[.int .i64 0, .int .i64 0] 23 (0, 0))).alloc (.cells #[.int .i64 s, .int .i64 1048576] 23 (0, 0))) = w0 at *
  have e1 : (w.alloc (.cells #[.int .i64 0, .int .i64 0] 23 (0, 0))).heap.size = w.heap.size + 1 := by simp
  rw [e1] at hx1
  clear e1
  obtain ⟨hx0a, hx0b, hx0c⟩ := two_facts hx0
  obtain ⟨hx0f, hx0g⟩ := two_frozen hx0
  obtain ⟨hx1a, hx1b, hx1c⟩ := two_facts hx1
  obtain ⟨hx1f, hx1g⟩ := two_frozen hx1
  clear hx0a hx0b hx0c hx0f hx0g hx1a hx1b hx1c hx1f hx1g
  go_loopw [] (fun wr => ∃ n d j : Nat, wr.heap[w.heap.size + 1]? = some (.cells #[.int .i64 n, .int .i64 d] 23 (0, 0)) ∧ wr.heap[w.heap.size]? = some (.cells #[.int .i64 0, .int .i64 0] 23 (0, 0)) ∧ Below w.heap.size w wr ∧ (n : Int) ≤ 4611686018427387904 ∧ d = 2 ^ j ∧ j ≤ 20 ∧ Hid (n * 1048576 = s * d)) (fun wr => (intOf ((wr.cell? ⟨w.heap.size + 1, 1, none⟩).getD undef)).toNat)
  case atStart => exact ⟨s, 1048576, 20, hx1, hx0, hb0, hs, rfl, by omega, rfl⟩
  case round =>
    obtain ⟨n, d, j, hx1, hx0, hbw, hn, hd, hj, he⟩ := hrel
    obtain ⟨ka, kb, kc⟩ := two_facts hx1
    obtain ⟨kf, kg⟩ := two_frozen hx1
    have hdl : d ≤ 2 ^ 20 := by rw [hd]; exact Nat.pow_le_pow_right (by omega) hj
    have HJ := Lib.hid hd
    clear hd
    by_cases hlt : 1 < d
    · obtain ⟨i, hi1, hi2⟩ := pow_even (j := j) (by have := HJ.out; omega)
      have hd2 : d = 2 * 2 ^ i := by rw [HJ.out, hi1]
      have hdh : d / 2 = 2 ^ i := by omega
      have HD2 := Lib.hid hd2
      have HDH := Lib.hid hdh
      clear hi1 hd2 hdh
      by_cases hev : n % 2 = 0
      · go_wp2_with fail
        go_roundw
        case rel =>
          refine ⟨n / 2, d / 2, i, set_two _ _ hx1, (Below.heap_setCell _ _ _ _ (by show w.heap.size ≠ w.heap.size + 1; omega)).trans ((Below.heap_setCell _ _ _ _ (by show w.heap.size ≠ w.heap.size + 1; omega)).trans hx0), (hbw.setCell (by show w.heap.size ≤ w.heap.size + 1; omega) _).setCell (by show w.heap.size ≤ w.heap.size + 1; omega) _, by omega, HDH.out, by omega, ?_⟩
          have h1 := he.out
          rw [HD2.out] at h1
          have h2 := half_step h1 hev
          rw [← HDH.out] at h2
          exact h2
        case measure =>
          have c1 := (two_cells (set_two (.int .i64 ((n : Int) / 2)) (.int .i64 ((d : Int) / 2)) hx1)).2
          rw [c1, kb]
          simp [intOf]
          omega
      · have hA := frA_end he.out HJ.out (.inr (by omega))
        have hg := fun w => isFraction_any n d w
        cases hf : isFr n d with
        | false =>
          rw [hf] at hg hA
          rw [if_neg (by simp)] at hA
          have HA := Lib.hid hA
          clear hA hf he
          go_wp2_with fail
          refine (hg _).mono ?_; rintro e w1 ⟨rfl, hb1⟩
          have hx0' := heap_keep hb1 hx0
          have hbw1 := nx hbw hb1
          obtain ⟨q3, q4⟩ := two_frozen hx0'
          obtain ⟨q5, q6, q7⟩ := two_facts hx0'
          go_wp2_with fail
          rw [HA.out]
          obtain ⟨q1, q2⟩ := two_cells (set_two (.int .i64 0) (.int .i64 0) hx0')
          refine bodyPost_ret (v := .tuple #[.agg #[.int .i64 0, .int .i64 0], .bool false]) (by simp [q1, q2, results, Tryd.results18, go_sem]) rfl ⟨rfl, ?_⟩
          exact (hbw1.setCell (by show w.heap.size ≤ w.heap.size; omega) _).setCell (by show w.heap.size ≤ w.heap.size; omega) _
        | true =>
          rw [hf] at hg hA
          rw [if_pos rfl] at hA
          have HA := Lib.hid hA
          clear hA hf he
          go_wp2_with fail
          refine (hg _).mono ?_; rintro e w1 ⟨rfl, hb1⟩
          have hx0' := heap_keep hb1 hx0
          have hx1' := heap_keep hb1 hx1
          have hbw1 := nx hbw hb1
          obtain ⟨q3, q4⟩ := two_frozen hx0'
          obtain ⟨q5, q6, q7⟩ := two_facts hx0'
          obtain ⟨r5, r6, r7⟩ := two_facts hx1'
          go_wp2_with fail
          rw [HA.out]
          obtain ⟨q1, q2⟩ := two_cells (set_two (.int .i64 n) (.int .i64 d) hx0')
          refine bodyPost_ret (v := .tuple #[.agg #[.int .i64 n, .int .i64 d], .bool true]) (by simp [q1, q2, results, Tryd.results18, go_sem]) rfl ⟨rfl, ?_⟩
          exact (hbw1.setCell (by show w.heap.size ≤ w.heap.size; omega) _).setCell (by show w.heap.size ≤ w.heap.size; omega) _
    · have hA := frA_end he.out HJ.out (.inl hlt)
      have hg := fun w => isFraction_any n d w
      cases hf : isFr n d with
      | false =>
        rw [hf] at hg hA
        rw [if_neg (by simp)] at hA
        have HA := Lib.hid hA
        clear hA hf he
        go_wp2_with fail
        refine (hg _).mono ?_; rintro e w1 ⟨rfl, hb1⟩
        have hx0' := heap_keep hb1 hx0
        have hbw1 := nx hbw hb1
        obtain ⟨q3, q4⟩ := two_frozen hx0'
        obtain ⟨q5, q6, q7⟩ := two_facts hx0'
        go_wp2_with fail
        rw [HA.out]
        obtain ⟨q1, q2⟩ := two_cells (set_two (.int .i64 0) (.int .i64 0) hx0')
        refine bodyPost_ret (v := .tuple #[.agg #[.int .i64 0, .int .i64 0], .bool false]) (by simp [q1, q2, results, Tryd.results18, go_sem]) rfl ⟨rfl, ?_⟩
        exact (hbw1.setCell (by show w.heap.size ≤ w.heap.size; omega) _).setCell (by show w.heap.size ≤ w.heap.size; omega) _
      | true =>
        rw [hf] at hg hA
        rw [if_pos rfl] at hA
        have HA := Lib.hid hA
        clear hA hf he
        go_wp2_with fail
        refine (hg _).mono ?_; rintro e w1 ⟨rfl, hb1⟩
        have hx0' := heap_keep hb1 hx0
        have hx1' := heap_keep hb1 hx1
        have hbw1 := nx hbw hb1
        obtain ⟨q3, q4⟩ := two_frozen hx0'
        obtain ⟨q5, q6, q7⟩ := two_facts hx0'
        obtain ⟨r5, r6, r7⟩ := two_facts hx1'
        go_wp2_with fail
        rw [HA.out]
        obtain ⟨q1, q2⟩ := two_cells (set_two (.int .i64 n) (.int .i64 d) hx0')
        refine bodyPost_ret (v := .tuple #[.agg #[.int .i64 n, .int .i64 d], .bool true]) (by simp [q1, q2, results, Tryd.results18, go_sem]) rfl ⟨rfl, ?_⟩
        exact (hbw1.setCell (by show w.heap.size ≤ w.heap.size; omega) _).setCell (by show w.heap.size ≤ w.heap.size; omega) _
end Go.Proofs.YtdhjchibhlcchaaDoor

/-! End -/
namespace Go.Proofs.YtdhjchibhlcchaaDoor
open Go.RowKit


set_option maxHeartbeats 400000 in
theorem end_any (k : Nat) : ∀ (s : ByteArray) (a d : Int) (w : World), s.size ≤ 9223372036854775806 → 0 ≤ d → d + k = 61 → 0 ≤ a →
    Calls Tryd.prog 66 #[.string s, .int .i64 a, .int .i64 d] w fun e w' => e = .returned (.int .i64 (endI k s a)) ∧ w = w' := by
  induction k with
  | zero =>
    intro s a d w hs hd0 hd ha
    by_cases h : a < s.size
    all_goals
      go_enter Tryd.func66, Tryd.ntmps66
      go_wp2_with fail
      go_ret
      exact ⟨rfl, rfl⟩
  | succ k ih =>
    intro s a d w hs hd0 hd ha
    have b1 := endI_le k s (a + 1) (by omega)
    have b2 := fun h => endI_le k s (endI k s (a + 1)) h
    by_cases h : a < s.size
    · go_enter Tryd.func66, Tryd.ntmps66
      go_wp2_with (go_at_call 66; refine (ih s _ _ _ hs (by omega) (by omega) (by omega)).mono ?_; rintro e w' ⟨rfl, rfl⟩)
      all_goals
        go_ret
        refine ⟨ret_int ?_, rfl⟩
        go_light
        clear ih b2
        have e1 := byteAt_eq s a (by omega)
        have e2 := byteAt_eq s (endI k s (endI k s (a + 1)))
        simp only [beq_iff_eq, beq_eq_false_iff_ne, ne_eq, bne_iff_ne, bne_eq_false_iff_eq] at *
        rw [endI]
        repeat' split
        all_goals first | omega | (have := e2 (by omega); omega)
    · go_enter Tryd.func66, Tryd.ntmps66
      go_wp2_with fail
      go_ret
      exact ⟨ret_int (by rw [endI, if_neg (by omega)]), rfl⟩
end Go.Proofs.YtdhjchibhlcchaaDoor

/-! Carets -/
namespace Go.Proofs.YtdhjchibhlcchaaDoor
open Go.RowKit

set_option maxHeartbeats 400000 in
theorem carets_any (s : ByteArray) (w : World) (hs : s.size ≤ 9223372036854775806) :
    Calls Tryd.prog 38 #[.string s] w fun e w' => e = .returned (.int .i64 (cnt s s.size)) ∧ w = w' := by
  go_enter Tryd.func38, Tryd.ntmps38
  go_wp2
  go_loop [3, 4] (fun n i => ∃ k : Nat, k ≤ s.size ∧ i = .int .i64 k ∧ n = .int .i64 (cnt s k)) (fun _ i => s.size - (intOf i).toNat)
  case atStart => exact ⟨0, Nat.zero_le _, rfl, rfl⟩
  case round =>
    obtain ⟨k, hk, rfl, rfl⟩ := hrel
    have hc := cnt_le s k
    by_cases hlt : k < s.size
    · have e1 : Hid (byteAt s k = ((s[k]'hlt).toNat : Int)) := byteAt_eq s k hlt
      go_wp2
      all_goals
        go_round
        case rel => exact ⟨k + 1, by omega, by go_num, by rw [cnt, e1.out]; first | rw [if_pos (by simpa using ‹(_ == (40:Int)) = true›)] | (rw [if_neg (by simpa using ‹(_ == (40:Int)) = false›)]; go_num)⟩
        case measure => simp [intOf]; omega
    · obtain rfl : k = s.size := by omega
      go_wp2
      go_ret
      exact ⟨rfl, rfl⟩
set_option maxHeartbeats 400000 in
theorem trIs_any (s : ByteArray) (w : World) (hs : s.size ≤ 9223372036854775806) :
    Calls Tryd.prog 37 #[.string s] w fun e w' => e = .returned (.bool (isTreeB s)) ∧ w = w' := by
  have hc := cnt_le s s.size
  have he := endI_le 61 s 0 (by omega)
  by_cases a : (s.size : Int) ≤ 33 <;> by_cases b : cnt s s.size ≤ 8
  all_goals
    go_enter Tryd.func37, Tryd.ntmps37
    go_wp2_with (first | (go_at_call 38; refine (carets_any s _ hs).mono ?_; rintro e w' ⟨rfl, rfl⟩) | (go_at_call 66; refine (end_any 61 s _ _ _ hs (by omega) (by omega) (by omega)).mono ?_; rintro e w' ⟨rfl, rfl⟩))
    go_ret
    exact ⟨ret_bool (by unfold isTreeB; rw [Bool.eq_iff_iff]; simp; try omega), rfl⟩

end Go.Proofs.YtdhjchibhlcchaaDoor

/-! SpecTr -/
namespace Go.Proofs.YtdhjchibhlcchaaDoor
open Go.RowKit

theorem isLf_eq (t : Tr) : (t.str.toList == [46]) = t.isLf := by
  rw [Lib.toList_data, Tr.str_list]
  cases t <;> simp [Tr.text, Tr.isLf]

theorem str_lf : Tr.lf.str = ⟨#[46]⟩ := rfl
theorem str_nd (l r : Tr) : (Tr.nd l r).str = ⟨#[40]⟩ ++ l.str ++ r.str ++ ⟨#[41]⟩ := by
  apply ba_ext
  simp [Tr.str, Tr.text]

theorem trLeaf_any (t : Tr) (w : World) :
    Calls Tryd.prog 39 #[.string t.str] w fun e w' => e = .returned (.bool t.isLf) ∧ w = w' := by
  go_enter Tryd.func39, Tryd.ntmps39
  go_wp2_with fail
  go_ret
  exact ⟨ret_bool (isLf_eq t), rfl⟩

theorem ret_str2 {a b c d : ByteArray} (h : a = c) (k : b = d) : Ending.returned (.tuple #[.string a, .string b]) = .returned (.tuple #[.string c, .string d]) := by rw [h, k]

theorem side_left (l r : Tr) (e : Nat) (he : e = 3 * l.carets + 2) : (Tr.nd l r).str.extract 1 e = l.str := by
  apply ba_ext
  rw [Lib.extract_data, Tr.str_list, Tr.str_list]
  have : e - 1 = l.text.length := by rw [l.text_len]; omega
  rw [this]
  simp [Tr.text]

theorem side_right (l r : Tr) (e f : Nat) (he : e = 3 * l.carets + 2) (hf : f = 3 * l.carets + 3 * r.carets + 3) : (Tr.nd l r).str.extract e f = r.str := by
  apply ba_ext
  rw [Lib.extract_data, Tr.str_list, Tr.str_list]
  have h1 : e = l.text.length + 1 := by rw [l.text_len]; omega
  have h2 : f - e = r.text.length := by rw [r.text_len]; omega
  rw [h2, h1]
  show ((40 :: (l.text ++ (r.text ++ [41]))).drop (l.text.length + 1)).take _ = _
  rw [List.drop_succ_cons, List.drop_left, List.take_left]

theorem trSides_any (l r : Tr) (w : World) (h : l.carets + r.carets ≤ 60) :
    Calls Tryd.prog 40 #[.string (Tr.nd l r).str] w fun e w' => e = .returned (.tuple #[.string l.str, .string r.str]) ∧ Below w.heap.size w w' := by
  have h1 := (Tr.nd l r).str_size
  simp only [Tr.carets] at h1
  have he := endI_complete l 61 (Tr.nd l r).str 1 (r.text ++ [41]) (by omega) (by rw [Tr.str_list]; rfl)
  have hl := l.text_len
  have he' : endI 61 (Tr.nd l r).str 1 = (3 * l.carets + 2 : Nat) := by
    have : ((1 : Nat) : Int) = 1 := rfl
    rw [this] at he; rw [he]; omega
  have HE := Lib.hid he'
  clear he he' hl
  go_enter Tryd.func40, Tryd.ntmps40
  go_wp2_with fail
  refine (end_any 61 (Tr.nd l r).str _ _ _ (by omega) (by omega) (by omega) (by omega)).mono ?_; rintro e w' ⟨rfl, rfl⟩
  rw [HE.out]
  go_wp2_with fail
  go_region
  all_goals (try go_wp2_with fail)
  all_goals go_ret2
  exact ⟨ret_str2 (side_left l r _ (by omega)) (side_right l r _ _ (by omega) (by omega)), (Below.refl _ _).drew⟩
end Go.Proofs.YtdhjchibhlcchaaDoor

/-! Text -/
namespace Go.Proofs.YtdhjchibhlcchaaDoor
open Go.RowKit

theorem isLeaf_any (t : Tr) (b : Nat) (w : World) (h : NodeAt w t b) :
    Calls Tryd.prog 44 #[.pointer (some ⟨b, 0, none⟩)] w fun e w' => e = .returned (.bool t.isLf) ∧ w = w' := by
  cases t with
  | lf =>
    have h1 := two_left h
    have H := Lib.hid h
    clear h
    go_enter Tryd.func44, Tryd.ntmps44
    go_wp2_with fail
    go_ret
    exact ⟨rfl, rfl⟩
  | nd l r =>
    obtain ⟨bl, br, h, hl, hr⟩ := h
    have h1 := two_left h
    have H := Lib.hid h
    clear h
    go_enter Tryd.func44, Tryd.ntmps44
    go_wp2_with fail
    go_ret
    exact ⟨rfl, rfl⟩

theorem NodeAt.heap {w w' : World} (e : w'.heap = w.heap) : ∀ {t : Tr} {b : Nat}, NodeAt w t b → NodeAt w' t b := by
  intro t
  induction t with
  | lf => intro b h; unfold NodeAt at *; rw [e]; exact h
  | nd l r ihl ihr =>
    intro b h
    obtain ⟨bl, br, h, h1, h2⟩ := h
    exact ⟨bl, br, by rw [e]; exact h, ihl h1, ihr h2⟩
theorem NodeAt.drewN {w : World} (n : Nat) {t : Tr} {b : Nat} (h : NodeAt w t b) : NodeAt (w.drewN n) t b := NodeAt.heap (w := w) (w' := w.drewN n) rfl h

end Go.Proofs.YtdhjchibhlcchaaDoor

/-! Mir -/
namespace Go.Proofs.YtdhjchibhlcchaaDoor
open Go.RowKit

/-- A call that hands back a node of a tree. -/
def GivesNode (t : Tr) (w : World) (e : Ending) (w' : World) : Prop :=
  ∃ b : Nat, NodeAt w' t b ∧ Below w.heap.size w w' ∧ e = .returned (.pointer (some ⟨b, 0, none⟩))

theorem below_two {w w1 : World} {b : Nat} {u v : Value} (hb : Below w.heap.size w w1) (h1 : w.cell? ⟨b, 0, none⟩ = some u) (h2 : w.cell? ⟨b, 1, none⟩ = some v) :
    w1.cell? ⟨b, 0, none⟩ = some u ∧ w1.cell? ⟨b, 1, none⟩ = some v := by
  have hl := World.block_lt_of_cell? w _ h1
  exact ⟨(hb.cell (p := ⟨b, 0, none⟩) hl).trans h1, (hb.cell (p := ⟨b, 1, none⟩) hl).trans h2⟩

end Go.Proofs.YtdhjchibhlcchaaDoor

/-! Addr -/
namespace Go.Proofs.YtdhjchibhlcchaaDoor
open Go.RowKit

set_option maxRecDepth 100000 in
set_option maxHeartbeats 2000000 in
theorem trAddresses_any (t : Tr) : ∀ (here : ByteArray) (w : World), t.carets ≤ 60 → here.size + t.carets ≤ 1000 →
    Calls Tryd.prog 21 #[.string t.str, .string here] w (GivesTexts (t.addrs here) w) := by
  obtain ⟨i0, hi, hz0, hz1, hz2⟩ := info_parts info_str
  induction t with
  | lf =>
    intro here w ht hh
    go_enter Tryd.func21, Tryd.ntmps21
    go_wp2_with fail
    refine (trLeaf_any .lf _).mono ?_; rintro e w1 ⟨rfl, rfl⟩
    simp only [Tr.isLf]
    go_wp2_with fail
    go_ret
    exact ⟨_, 1, OwnS.one _ _, nxAlloc (Below.refl _ _) _, rfl⟩
  | nd l r ihl ihr =>
    intro here w ht hh
    have ht' : l.carets + r.carets + 1 ≤ 60 := ht
    have hh' : here.size + (l.carets + r.carets + 1) ≤ 1000 := hh
    have ll := addrs_length l (here ++ ⟨#[48]⟩)
    have lr := addrs_length r (here ++ ⟨#[49]⟩)
    obtain ⟨A, hA⟩ : ∃ A, A = l.addrs (here ++ ⟨#[48]⟩) := ⟨_, rfl⟩
    obtain ⟨B, hB⟩ : ∃ B, B = r.addrs (here ++ ⟨#[49]⟩) := ⟨_, rfl⟩
    have hC : (Tr.nd l r).addrs here = A ++ B := by rw [hA, hB]; rfl
    have s0 : (here ++ (⟨#[48]⟩ : ByteArray)).size = here.size + 1 := ByteArray.size_append
    have s1 : (here ++ (⟨#[49]⟩ : ByteArray)).size = here.size + 1 := ByteArray.size_append
    have jl := fun w => ihl (here ++ ⟨#[48]⟩) w (by omega) (by omega)
    have jr := fun w => ihr (here ++ ⟨#[49]⟩) w (by omega) (by omega)
    rw [← hA] at ll jl
    rw [← hB] at lr jr
    rw [hC]
    have hAn : A.length ≤ 61 := by omega
    have hBn : B.length ≤ 61 := by omega
    have hBp : 0 < B.length := by omega
    have hAp : 0 < A.length := by omega
    clear ihl ihr hA hB hC s0 s1 ll lr
    go_enter Tryd.func21, Tryd.ntmps21
    go_wp2_with fail
    refine (trLeaf_any (.nd l r) _).mono ?_; rintro e w1 ⟨rfl, rfl⟩
    simp only [Tr.isLf]
    go_wp2_with fail
    refine (trSides_any l r _ (by omega)).mono ?_; rintro e w1 ⟨rfl, hb1⟩
    go_wp2_with fail
    refine (jl _).mono ?_; rintro e w2 ⟨g1, cap1, own1, hb2, rfl⟩
    go_wp2_with fail
    refine (jr _).mono ?_; rintro e w3 ⟨g2, cap2, own2, hb3, rfl⟩
    have hown := (own1.keep hb3).mono hb1.size
    have hbw : Below w.heap.size w w3 := nx (nx hb1 hb2) hb3
    go_wp2_with (at_builtin; refine wpList_append_own _ rfl _ _ 42 rfl w.heap.size 9 i0 (.string ⟨#[]⟩) 1 16 Tryd.underlying42 hi hz0 hz1 hz2 rfl (by decide) _ _ _ rfl hown ⟨g2, 0, none⟩ B.length cap2 (B.map Value.string) rfl (by simp) (own2.news rfl) (oneS _) (by unfold maxLen; omega) (by omega) hbw.size ?_; intro v' w4 hown' hgrow hnn)
    have hbw' := below_app0 hbw hown (Nat.le_refl _) hgrow
    have hown1 := OwnS.app hown'
    obtain ⟨g, cap, hv⟩ := hown1.shape (by simp; omega)
    have HV := Lib.hid hv
    clear hown hown' hgrow hv hnn
    go_wp2_with fail
    go_ret
    exact ⟨g, cap, by rw [← HV.out]; exact hown1, hbw', by rw [← HV.out]; rfl⟩

set_option maxRecDepth 100000 in
set_option maxHeartbeats 4000000 in
theorem addressesFrom_any (t : Tr) : ∀ (b : Nat) (here : ByteArray) (w : World), NodeAt w t b → t.carets ≤ 60 → here.size + t.carets ≤ 1000 →
    Calls Tryd.prog 24 #[.pointer (some ⟨b, 0, none⟩), .string here] w (GivesTexts (t.addrs here) w) := by
  obtain ⟨i0, hi, hz0, hz1, hz2⟩ := info_parts info_str
  induction t with
  | lf =>
    intro b here w h ht hh
    have H := Lib.hid h
    clear h
    go_enter Tryd.func24, Tryd.ntmps24
    go_wp2_with fail
    refine (isLeaf_any .lf b _ H.out).mono ?_; rintro e w1 ⟨rfl, rfl⟩
    simp only [Tr.isLf]
    go_wp2_with fail
    go_ret
    exact ⟨_, 1, OwnS.one _ _, nxAlloc (Below.refl _ _) _, rfl⟩
  | nd l r ihl ihr =>
    intro b here w h ht hh
    have ht' : l.carets + r.carets + 1 ≤ 60 := ht
    have hh' : here.size + (l.carets + r.carets + 1) ≤ 1000 := hh
    have ll := addrs_length l (here ++ ⟨#[48]⟩)
    have lr := addrs_length r (here ++ ⟨#[49]⟩)
    obtain ⟨A, hA⟩ : ∃ A, A = l.addrs (here ++ ⟨#[48]⟩) := ⟨_, rfl⟩
    obtain ⟨B, hB⟩ : ∃ B, B = r.addrs (here ++ ⟨#[49]⟩) := ⟨_, rfl⟩
    have hC : (Tr.nd l r).addrs here = A ++ B := by rw [hA, hB]; rfl
    have s0 : (here ++ (⟨#[48]⟩ : ByteArray)).size = here.size + 1 := ByteArray.size_append
    have s1 : (here ++ (⟨#[49]⟩ : ByteArray)).size = here.size + 1 := ByteArray.size_append
    have jl := fun b w h => ihl b (here ++ ⟨#[48]⟩) w h (by omega) (by omega)
    have jr := fun b w h => ihr b (here ++ ⟨#[49]⟩) w h (by omega) (by omega)
    rw [← hA] at ll jl
    rw [← hB] at lr jr
    rw [hC]
    have hAn : A.length ≤ 61 := by omega
    have hBn : B.length ≤ 61 := by omega
    have hBp : 0 < B.length := by omega
    have hAp : 0 < A.length := by omega
    have H := Lib.hid h
    obtain ⟨bl, br, h, hl, hr⟩ := h
    have h1 := two_left h
    have h2 := two_right h
    have hb0 := Below.refl w.heap.size w
    have hz3 : (9223372036854775807 < here.size + 1) = False := eq_false (by omega)
    clear h ihl ihr hA hB hC s0 s1 ll lr
    go_enter Tryd.func24, Tryd.ntmps24
    go_wp2_with fail
    refine (isLeaf_any (.nd l r) b _ H.out).mono ?_; rintro e w1 ⟨rfl, rfl⟩
    simp only [Tr.isLf]
    go_wp2_with fail
    go_region_held3 (fun w' => w'.cell? ⟨b, 0, none⟩ = some (.pointer (some ⟨bl, 0, none⟩)) ∧ w'.cell? ⟨b, 1, none⟩ = some (.pointer (some ⟨br, 0, none⟩)))
      (first
        | exact ⟨h1, h2⟩
        | exact ⟨q1, q2⟩
        | exact ⟨s1, s2⟩
        | exact ⟨r1, r2⟩)
      (first
        | (go_at_call_of 24 (some (⟨bl, 0, none⟩ : Addr)); refine (jl bl _ ?_).mono ?_; exact hl.keep hb0.drew; rintro e w1 ⟨g1, cap1, own1, hb1, rfl⟩; have hb1' := nx hb0.drew hb1; obtain ⟨q1, q2⟩ := below_two hb1' h1 h2)
        | (go_at_call_of 24 (some (⟨br, 0, none⟩ : Addr)); refine (jr br _ ?_).mono ?_; exact hr.keep hb1'; rintro e w2 ⟨g2, cap2, own2, hb2, rfl⟩; have hb2' := nx hb1' hb2; obtain ⟨s1, s2⟩ := below_two hb2' h1 h2; have hown := (own1.keep hb2).mono hb0.drew.size)
        | (refine step_append_lies _ (by rfl) _ _ _ (by rfl) w.heap.size 9 i0 _ 1 16 Tryd.underlying42 hi hz0 hz1 hz2 rfl (by omega) (.slice (some ⟨g1, 0, none⟩) A.length cap1) A.length (A.map Value.string) (by rfl) hown ⟨g2, 0, none⟩ B.length cap2 (B.map Value.string) (by rfl) (by simp) (own2.news rfl) (oneS _) hBp (by unfold maxLen; omega) (by omega) hb2'.size w2.heap.size (by rfl) ?_; intro gg cap w3 hown1 hgrow hat hlt; have hb3 := below_app0 hb2' hown (Nat.le_refl _) hgrow; obtain ⟨r1, r2⟩ := below_two hb3 h1 h2))
    go_wp2_with fail
    go_ret
    exact ⟨gg, cap, by rw [List.length_append]; exact OwnS.app hown1, hb3, by rw [List.length_append]; rfl⟩
end Go.Proofs.YtdhjchibhlcchaaDoor

/-! Ft2 -/
namespace Go.Proofs.YtdhjchibhlcchaaDoor
open Go.RowKit

theorem two1 (a b : Int) : ∀ u ∈ [Value.int .i64 a, Value.int .i64 b], u.oneCell' = true := by
  intro u hu
  simp at hu
  rcases hu with rfl | rfl <;> rfl
/-- The fractions at which addresses begin. -/
def frs (ss : List ByteArray) : List (Nat × Nat) := ss.map fun a => frOf (stA a)
theorem frs_snoc {ss : List ByteArray} {k : Nat} (h : k < ss.length) : frs (ss.take (k + 1)) = frs (ss.take k) ++ [((frOf (stA (ss.getD k ⟨#[]⟩))).1, (frOf (stA (ss.getD k ⟨#[]⟩))).2)] := by
  unfold frs
  rw [List.take_succ_eq_append_getElem h, List.map_append]
  simp [h]
def okAd (a : ByteArray) : Prop := a.size ≤ 10 ∧ a.data.toList.all isBit = true
theorem addrs_ok (t : Tr) (h : t.carets ≤ 8) : ∀ a ∈ t.addrs ⟨#[]⟩, okAd a := by
  intro a ha
  refine ⟨?_, addrs_bits t ⟨#[]⟩ rfl a ha⟩
  have := addrs_size t ⟨#[]⟩ a ha
  have e : (⟨#[]⟩ : ByteArray).size = 0 := rfl
  omega

set_option maxRecDepth 100000 in
set_option maxHeartbeats 2000000 in
theorem mpStarts_any (t : Tr) (w : World) (h : t.carets ≤ 8) :
    Calls Tryd.prog 47 #[.string t.str] w (GivesF (frs (t.addrs ⟨#[]⟩)) w) := by
  obtain ⟨i0, hi, hz0, hz1, hz2⟩ := info_parts info_frac
  have hl := addrs_length t ⟨#[]⟩
  have hA := fun w => trAddresses_any t ⟨#[]⟩ w (by omega) (by show 0 + t.carets ≤ 1000; omega)
  have hok := addrs_ok t h
  obtain ⟨ss, hss⟩ : ∃ ss, ss = t.addrs ⟨#[]⟩ := ⟨_, rfl⟩
  rw [← hss] at hl hA hok ⊢
  have hln : ss.length ≤ 9 := by omega
  have hlp : 0 < ss.length := by omega
  have HZ := Lib.hid hok
  clear hss hl hok
  go_enter Tryd.func47, Tryd.ntmps47
  go_wp2_with fail
  refine (hA _).mono ?_; rintro e w2 ⟨g, cap, own, hb2, rfl⟩
  go_wp2_with fail
  rcases own.cells with ⟨_, h0⟩ | ⟨g', cap', hv, hg0, hg, hc1, hc2, hcell, _⟩
  · rw [h0] at hlp; simp at hlp
  · obtain ⟨rfl, rfl⟩ : g' = g ∧ cap' = cap := by simpa using hv.symm
    have HC := Lib.hid hcell
    clear hv hcell own
    go_loopw [3, 9] (fun v i wr => ∃ k : Nat, k ≤ ss.length ∧ i = .int .i64 k ∧ OwnF w2.heap.size wr v (frs (ss.take k)) ∧ Below w2.heap.size w2 wr) (fun _ i _ => ss.length - (intOf i).toNat)
    case atStart => exact ⟨0, Nat.zero_le _, rfl, OwnW.nil _ _ _ _, Below.refl _ _⟩
    case round =>
      obtain ⟨k, hk, rfl, hown, hbw2⟩ := hrel
      by_cases hlt : k < ss.length
      · have hlt' : (k : Int) < (ss.length : Int) := by omega
        have hlen : (frs (ss.take k)).length = k := by simp [frs]; omega
        have c1 := (hbw2.cell (p := ⟨g', k, none⟩) hg).trans (HC.out k hlt)
        have hz := HZ.out (ss.getD k ⟨#[]⟩) (by rw [List.getD_eq_getElem?_getD, List.getElem?_eq_getElem hlt]; exact List.getElem_mem hlt)
        have hnext := frs_snoc hlt
        obtain ⟨xs, hxs⟩ : ∃ xs, xs = frs (ss.take k) := ⟨_, rfl⟩
        rw [← hxs] at hown hlen hnext
        obtain ⟨s, hs⟩ : ∃ s, s = ss.getD k ⟨#[]⟩ := ⟨_, rfl⟩
        rw [← hs] at c1 hz hnext
        have hM := fun w => mpOf_any s w hz.1 hz.2
        generalize (frOf (stA s)).1 = x at *
        generalize (frOf (stA s)).2 = y at *
        have HN := Lib.hid hnext
        have hxl : xs.length ≤ 9 := by omega
        clear hs hnext hxs hlen hz
        go_wp2_with fail
        refine (hM _).mono ?_; rintro e w3 ⟨rfl, hb3⟩
        have hown3 := hown.keep hb3
        have hbw3 := nx hbw2 hb3
        have hs3 := hbw3.size
        clear hown hbw2 hb3
        go_wp2_with (at_builtin; refine wpList_append_own _ rfl _ _ 50 rfl w2.heap.size 23 i0 (.agg #[.int .i64 0, .int .i64 0]) 2 16 Tryd.underlying50 hi hz0 hz1 hz2 rfl (by decide) _ _ _ rfl (hown3.alloc _) ⟨w3.heap.size, 0, none⟩ 1 1 [.int .i64 x, .int .i64 y] rfl rfl (newsK _ #[.int .i64 x, .int .i64 y] _) (two1 _ _) (by unfold maxLen; omega) (by omega) (by simp; omega) ?_; intro v' w9 hown' hgrow hnn)
        have hbw9 := (nxAlloc hbw3 _).grown hgrow (by simp; omega) (fun k hk => ownsRow_ge hown3 k hk)
        have hown1 := OwnF.snoc hown'
        clear hown3 hown' hgrow hbw3 hnn
        go_wp2_with fail
        go_roundw
        case rel => exact ⟨k + 1, by omega, by go_num, by rw [HN.out]; exact hown1, hbw9⟩
        case measure => simp [intOf]; omega
      · obtain rfl : k = ss.length := by omega
        rw [List.take_of_length_le (Nat.le_refl _)] at hown
        go_wp2_with fail
        go_ret
        exact ⟨_, hown.mono hb2.size, nx hb2 hbw2, rfl⟩

end Go.Proofs.YtdhjchibhlcchaaDoor

/-! RegF -/
namespace Go.Proofs.YtdhjchibhlcchaaDoor
open Go.RowKit

section
variable {P : Program} {ops : Array Oper} {md : Region.Mode} {w0 : World}

/-- In every world that leaves what was there, o yields v and leaves what is there. -/
def yR (P : Program) (ops : Array Oper) (w0 : World) (o : Oper) (v : Value) (a : Act) : Prop := ∀ w1, Cls w0 w1 → YieldsIn P ops (Cls w1) o v a

/-- The operations in the text's order. -/
def wpQuietR (P : Program) (ops : Array Oper) (w0 : World) (Q : Act → Prop) : List Oper → Act → Prop
  | [], a => Q a
  | o :: rest, a => ∃ v, yR P ops w0 o v a ∧ wpQuietR P ops w0 Q rest (a.put o.dst v)

theorem wpQuietR_nil {Q : Act → Prop} {a : Act} (h : Q a) : wpQuietR P ops w0 Q [] a := h
theorem wpQuietR_step {Q : Act → Prop} {a : Act} {o : Oper} {rest : List Oper}
    (h : ∀ K : Act → Prop, (∀ a, wpQuietR P ops w0 Q rest a → K a) → if Region.wanted o (yielded ops a.tmps) then ∃ v, (∀ w1, Cls w0 w1 → o.quietAt P a (Cls w1) w1 v) ∧ K (a.put o.dst v) else K (a.put o.dst undef)) : wpQuietR P ops w0 Q (o :: rest) a := by
  have := h _ (fun _ h => h)
  unfold wpQuietR
  by_cases hw : Region.wanted o (yielded ops a.tmps) = true
  · rw [if_pos hw] at this
    obtain ⟨v, h1, h2⟩ := this
    refine ⟨v, fun w1 hw1 => .inl ⟨hw, fun w2 hw2 => ?_⟩, h2⟩
    have h3 := h1 w2 (nx hw1 hw2)
    have h4 : ∀ w3, Cls w2 w3 → Cls w1 w3 := fun w3 hw3 => nx hw2 hw3
    unfold Oper.quietAt at *
    generalize (execOp a.eval o).run P w2 = r at *
    cases r with
    | ok n w' =>
      cases n <;> simp only [Oper.quietUpon] at h3 ⊢ <;> try exact h3
      exact ⟨h3.1, h3.2.mono fun _ _ ⟨e1, e2⟩ => ⟨e1, h4 _ e2⟩⟩
    | halt x w' => simp only [Oper.quietUpon] at h3
  · rw [if_neg hw] at this
    exact ⟨undef, fun w1 _ => .inr ⟨by simpa using hw, rfl⟩, this⟩

theorem quiet_wider {C C' : World → Prop} {o : Oper} {a : Act} {w : World} {v : Value} (h : ∀ w, C w → C' w) (hh : o.quietAt P a C w v) : o.quietAt P a C' w v := by
  unfold Oper.quietAt at *
  generalize (execOp a.eval o).run P w = r at *
  cases r with
  | ok n w' =>
    cases n <;> simp only [Oper.quietUpon] at hh ⊢ <;> try exact hh
    exact ⟨hh.1, hh.2.mono fun _ _ ⟨e1, e2⟩ => ⟨e1, h _ e2⟩⟩
  | halt x w' => simp only [Oper.quietUpon] at hh

/-- Operation i comes up. -/
def qR (P : Program) (ops : Array Oper) (w0 : World) (i : Nat) (K : Act → Prop) (a : Act) : Prop :=
  ∃ o v, ops[i]? = some o ∧ yR P ops w0 o v a ∧ K (a.put o.dst v)

/-- What has come up is closed. -/
structure ClInv (md : Region.Mode) (ops : Array Oper) (listed : Array Bool) : Prop where
  size : listed.size = ops.size
  closed : ∀ j oj, ops[j]? = some oj → listed.getD j false = true → ∀ e ∈ oj.after, Region.binds md e = true → listed.getD e.on false = true

theorem ClInv.set {i : Nat} {listed : Array Bool} (inv : ClInv md ops listed) (hi : i ∈ Region.ready md ops listed) : ClInv md ops (listed.setIfInBounds i true) := by
  obtain ⟨_, oi, hoi, hall⟩ := mem_ready.1 hi
  refine ⟨by simp [inv.size], fun j oj hj hl e he hb => ?_⟩
  by_cases hij : i = j
  · subst hij
    have : oj = oi := Option.some.inj (hj.symm.trans hoi)
    subst this
    exact getD_set_true (hall e he hb)
  · rw [getD_set_ne false hij] at hl
    exact getD_set_true (inv.closed j oj hj hl e he hb)

/-- Each of the first m waits for the next ones up to the last of them, and all behind them, number n aside, for that one. -/
def gateB (md : Region.Mode) (ops : Array Oper) (m n : Nat) : Bool :=
  ((List.range m).all fun i => decide (i + 1 = m) || (List.range m).any fun j => decide (i < j) && Region.waitsFor md ops j i) &&
  (List.range ops.size).all fun t => decide (t < m) || decide (t = n) || Region.waitsFor md ops t (m - 1)

theorem gate_waits {m n : Nat} {listed : Array Bool} (hg : gateB md ops m n = true) (inv : ClInv md ops listed) (_hm : m ≤ ops.size) :
    ∀ (d i : Nat), m - i = d → i < m → listed.getD i true = false → ∀ t, m ≤ t → t ≠ n → t ∉ Region.ready md ops listed := by
  simp only [gateB, Bool.and_eq_true] at hg
  obtain ⟨hs, hc⟩ := hg
  intro d
  induction d using Nat.strongRecOn with
  | _ d ih =>
    intro i hd hi hun t ht htn hr
    obtain ⟨_, ot, hot, hall⟩ := mem_ready.1 hr
    have htlt : t < ops.size := (Array.getElem?_eq_some_iff.1 hot).1
    by_cases him : i + 1 = m
    · have h1 := List.all_eq_true.1 hc t (List.mem_range.2 htlt)
      simp only [Bool.or_eq_true, decide_eq_true_eq] at h1
      rcases h1 with (h1 | h1) | h1
      · omega
      · exact htn h1
      · obtain ⟨o', ho', e, he, hb, hon⟩ := Region.waitsFor_spec h1
        obtain rfl : o' = ot := Option.some.inj (ho'.symm.trans hot)
        have h2 := hall e he hb
        rw [hon, show m - 1 = i by omega, getD_both hun] at h2
        cases h2
    · have h1 := List.all_eq_true.1 hs i (List.mem_range.2 hi)
      simp only [Bool.or_eq_true, decide_eq_true_eq, him, false_or] at h1
      obtain ⟨j, hj, hj2⟩ := List.any_eq_true.1 h1
      have hjm := List.mem_range.1 hj
      simp only [Bool.and_eq_true, decide_eq_true_eq] at hj2
      obtain ⟨oj, hoj, e, he, hb, hon⟩ := Region.waitsFor_spec hj2.2
      cases hl : listed.getD j false with
      | true =>
        have h2 := inv.closed j oj hoj hl e he hb
        rw [hon, getD_both hun] at h2
        cases h2
      | false =>
        exact ih (m - j) (by omega) j rfl (by omega) (getD_in (by rw [inv.size]; omega) hl) t ht htn hr

/-- Whatever order is drawn for the first m operations, number n aside. -/
def headF (P : Program) (md : Region.Mode) (ops : Array Oper) (w0 : World) (m n : Nat) (L : Array Bool → Act → Prop) : Nat → Array Bool → Act → Prop
  | 0, listed, a => L listed a
  | f + 1, listed, a => (∃ i ∈ Region.ready md ops listed, i ≠ n) ∧ ∀ i ∈ Region.ready md ops listed, i ≠ n → i < m ∧ qR P ops w0 i (headF P md ops w0 m n L f (listed.setIfInBounds i true)) a

theorem headF_first {m n i : Nat} {oi : Oper} {v : Value} {L : Array Bool → Act → Prop} (hi : ops[i]? = some oi) (hsel : ∀ (j : Nat) (o : Oper) cs b, ops[j]? = some o → o.op ≠ .select cs b)
    (hg : gateB md ops m n = true) (hm : m ≤ ops.size) (hmn : m ≤ n) (hin : i < m)
    (hdone : ∀ listed a, L listed a → ∀ j ∈ Region.ready md ops listed, m ≤ j) :
    ∀ (f : Nat) (listed : Array Bool) (a : Act), ClInv md ops listed →
      (∀ j oj, ops[j]? = some oj → j ≠ i → listed.getD j true = false → (∀ e ∈ oj.after, Region.binds md e = true → e.on ≠ i) → oi.apart ops oj = true) →
      i ∈ Region.ready md ops listed → yR P ops w0 oi v a →
      headF P md ops w0 m n L f (listed.setIfInBounds i true) (a.put oi.dst v) → headF P md ops w0 m n L (f + 1) listed a := by
  intro f
  induction f with
  | zero =>
    intro listed a inv _ hr hy H
    have hun := (mem_ready.1 hr).1
    refine ⟨⟨i, hr, by omega⟩, fun j hj hjn => ?_⟩
    have hjn' : j < m := Nat.lt_of_not_le fun h => gate_waits hg inv hm _ i rfl hin hun j h hjn hj
    refine ⟨hjn', ?_⟩
    by_cases hji : j = i
    · subst hji; exact ⟨oi, v, hi, hy, H⟩
    · have := hdone _ _ H j (ready_mono hj hji)
      omega
  | succ f ih =>
    intro listed a inv hfree hr hy H
    have hun := (mem_ready.1 hr).1
    refine ⟨⟨i, hr, by omega⟩, fun j hj hjn => ?_⟩
    have hjn' : j < m := Nat.lt_of_not_le fun h => gate_waits hg inv hm _ i rfl hin hun j h hjn hj
    refine ⟨hjn', ?_⟩
    by_cases hji : j = i
    · subst hji; exact ⟨oi, v, hi, hy, H⟩
    · obtain ⟨oj, u, hoj, hyj, k⟩ := (H.2 j (ready_mono hj hji) hjn).2
      obtain ⟨hjun, oj', hoj', hall⟩ := mem_ready.1 hj
      obtain rfl : oj' = oj := Option.some.inj (hoj'.symm.trans hoj)
      have hnot : ∀ e ∈ oj'.after, Region.binds md e = true → e.on ≠ i := by
        intro e he hb heq
        have k2 := hall e he hb
        rw [heq, getD_both hun] at k2
        cases k2
      have hap := hfree j oj' hoj hji hjun hnot
      obtain ⟨h1, h2, h3⟩ := Oper.apart_spec hap
      refine ⟨oj', u, hoj, fun w1 hw1 => (hyj w1 hw1).of_same (execOp_put oj' (fun cs b => hsel j oj' cs b hoj) a oi.dst v h1).symm (wanted_put oj' a oi.dst v h1).symm, ?_⟩
      refine ih (listed.setIfInBounds j true) (a.put oj'.dst u) (inv.set hj) ?_ (ready_mono hr (Ne.symm hji))
        (fun w1 hw1 => (hy w1 hw1).of_same (execOp_put oi (fun cs b => hsel i oi cs b hi) a oj'.dst u h3) (wanted_put oi a oj'.dst u h3)) ?_
      · intro k ok hk hki hunk hno
        refine hfree k ok hk hki ?_ hno
        by_cases hjk : j = k
        · subst hjk; exact hjun
        · rw [getD_set_ne true hjk] at hunk; exact hunk
      · rw [Array.setIfInBounds_comm _ _ hji, ← Act.put_comm a v u h2]
        exact k

/-- The first m, from number k on, in the text's order; then it is Z that has come up. -/
def lexF (md : Region.Mode) (ops : Array Oper) (m : Nat) (Z : Array Bool) : Nat → Nat → Array Bool → Bool
  | 0, _, listed => listed == Z && (Region.ready md ops Z).all fun j => decide (m ≤ j)
  | f + 1, k, listed => (Region.ready md ops listed).contains k && Region.free md ops listed k && lexF md ops m Z f (k + 1) (listed.setIfInBounds k true)

theorem lexF_done {m : Nat} {Z : Array Bool} : ∀ {f k : Nat} {listed : Array Bool}, lexF md ops m Z f k listed = true → ∀ j ∈ Region.ready md ops Z, m ≤ j
  | 0, _, _, h => by
    simp only [lexF, Bool.and_eq_true] at h
    exact fun j hj => by simpa using List.all_eq_true.1 h.2 j hj
  | f + 1, _, _, h => by
    simp only [lexF, Bool.and_eq_true] at h
    exact lexF_done h.2

theorem headF_lex {m n : Nat} {Z : Array Bool} {Lq : Act → Prop} (hsel : Region.noSelect ops = true) (hg : gateB md ops m n = true) (hm : m ≤ ops.size) (hmn : m ≤ n) :
    ∀ (l : List Oper) (k : Nat) (listed : Array Bool) (a : Act), (∀ j, j < l.length → l[j]? = ops[k + j]?) → k + l.length = m → ClInv md ops listed →
    lexF md ops m Z l.length k listed = true → wpQuietR P ops w0 Lq l a →
    headF P md ops w0 m n (fun listed' a' => listed' = Z ∧ Lq a') l.length listed a
  | [], k, listed, a, _, hk, _, hB, h => by
    simp only [List.length_nil, lexF, Bool.and_eq_true, beq_iff_eq] at hB
    exact ⟨hB.1, h⟩
  | o :: l, k, listed, a, hl, hk, inv, hB, h => by
    have h0 : ops[k]? = some o := by simpa using (hl 0 (by simp)).symm
    have hdone := lexF_done hB
    simp only [List.length_cons, lexF, Bool.and_eq_true] at hB
    obtain ⟨⟨hr, hf⟩, hB'⟩ := hB
    have hkn : k < m := by simp only [List.length_cons] at hk; omega
    have hr' : k ∈ Region.ready md ops listed := by simpa using hr
    obtain ⟨v, hy, hK⟩ := h
    refine headF_first h0 (Region.noSelect_spec hsel) hg hm hmn hkn (fun listed' a' hL => by rw [hL.1]; exact hdone) l.length listed a inv (Region.free_spec h0 hf) hr' hy ?_
    refine headF_lex hsel hg hm hmn l (k + 1) _ _ (fun j hj => ?_) (by simp only [List.length_cons] at hk; omega) (inv.set hr') hB' hK
    have := hl (j + 1) (by simp; omega)
    simpa [Nat.add_assoc, Nat.add_comm 1 j] using this

theorem wpOp_of_qR {i : Nat} {a : Act} {K : Act → Prop} {K' : Act → World → Prop} {Q' : Exit → Act → World → Prop} {w : World} (hC : Cls w0 w) (h : ∀ a w', Cls w w' → K a → K' a w') (hh : qR P ops w0 i K a) : wpOp P ops Q' i K' a w := by
  obtain ⟨o, v, ho, hy, hk⟩ := hh
  exact wpOp_of_qOp (C := Cls w) (Below.refl _ _) h ((hy w hC).qOp ho hk)

/-- No operation among the first m waits for number n or meets its slot; it waits for none. -/
def looseB (md : Region.Mode) (ops : Array Oper) (m n : Nat) : Bool :=
  (List.range m).all fun i => !Region.waitsFor md ops i n && match ops[n]?, ops[i]? with
    | some o, some oi => o.apart ops oi
    | _, _ => false

theorem looseB_spec {m n i : Nat} {o oi : Oper} (h : looseB md ops m n = true) (hi : i < m) (hn : ops[n]? = some o) (ho : ops[i]? = some oi) : o.apart ops oi = true ∧ ∀ e ∈ oi.after, Region.binds md e = true → e.on ≠ n := by
  have h1 := List.all_eq_true.1 h i (List.mem_range.2 hi)
  rw [hn, ho] at h1
  simp only [Bool.and_eq_true, Bool.not_eq_true'] at h1
  refine ⟨h1.2, fun e he hb heq => ?_⟩
  have h2 := h1.1
  unfold Region.waitsFor at h2
  rw [ho] at h2
  have h3 : (oi.after.any fun e => Region.binds md e && e.on == n) = true := Array.any_eq_true'.2 ⟨e, he, by simp [hb, heq]⟩
  dsimp only at h2
  rw [h3] at h2
  cases h2

def ptrV (g : Nat) : Value := .pointer (some ⟨g, 0, none⟩)

theorem heap_keepF {w w' : World} {g : Nat} {o : Obj} (hb : Cls w w') (h : w.heap[g]? = some o) : w'.heap[g]? = some o :=
  (Below.block hb g (by rcases Nat.lt_or_ge g w.heap.size with h' | h'; exact h'; rw [Array.getElem?_eq_none h'] at h; cases h)).trans h

/-- Once the cell is laid. -/
theorem any_post {m n g : Nat} {L : Array Bool → Act → Prop} {Q' : Exit → Act → World → Prop} {o : Oper} {X : Obj} (hsel : ∀ (j : Nat) (o : Oper) cs b, ops[j]? = some o → o.op ≠ .select cs b)
    (hgt : gateB md ops m n = true) (hm : m ≤ ops.size) (hn : n < ops.size) (hlo : looseB md ops m n = true) (ho : ops[n]? = some o)
    (hL : ∀ listed a w gp, L listed a → Cls w0 w → w.heap[gp]? = some X → w0.heap.size ≤ gp → wpAny P md ops Q' g (listed.setIfInBounds n true) (a.put o.dst (ptrV gp)) w) :
    ∀ (f : Nat) (listed : Array Bool) (a : Act) (w : World) (gp : Nat), listed.size = ops.size → ClInv md ops (listed.setIfInBounds n true) → Cls w0 w → w.heap[gp]? = some X → w0.heap.size ≤ gp →
      headF P md ops w0 m n L f listed a → wpAny P md ops Q' (f + g) (listed.setIfInBounds n true) (a.put o.dst (ptrV gp)) w := by
  intro f
  induction f with
  | zero => intro listed a w gp _ _ hw hx hg h; rw [Nat.zero_add]; exact hL _ _ _ _ h hw hx hg
  | succ f ih =>
    intro listed a w gp hsz inv hw hx hg h
    obtain ⟨⟨i0, hi0, hne⟩, hall⟩ := h
    have hi0n := (hall i0 hi0 hne).1
    have hr0 := ready_mono hi0 hne
    rw [Nat.add_right_comm]
    refine ⟨fun h0 => absurd h0 (List.ne_nil_of_mem hr0), fun i hi => ?_⟩
    obtain ⟨hun, oi, hoi, haft⟩ := mem_ready.1 hi
    have hin : i ≠ n := by
      rintro rfl
      have : (listed.setIfInBounds i true).getD i true = true := by
        rw [Array.getD_eq_getD_getElem?, Array.getElem?_setIfInBounds_self_of_lt (by omega)]; rfl
      rw [this] at hun; cases hun
    have hin' : i < m := Nat.lt_of_not_le fun h => gate_waits hgt inv hm _ i0 rfl hi0n (mem_ready.1 hr0).1 i h hin hi
    obtain ⟨hap, hno⟩ := looseB_spec hlo hin' ho hoi
    have hri : i ∈ Region.ready md ops listed := by
      refine mem_ready.2 ⟨by rw [getD_set_ne true (Ne.symm hin)] at hun; exact hun, oi, hoi, fun e he hb => ?_⟩
      have := haft e he hb
      rwa [getD_set_ne false (Ne.symm (hno e he hb))] at this
    obtain ⟨_, oi', v, hoi', hy, hk⟩ := hall i hri hin
    obtain rfl : oi' = oi := Option.some.inj (hoi'.symm.trans hoi)
    obtain ⟨h1, h2, h3⟩ := Oper.apart_spec hap
    refine wpOp_of_qR (K := fun a' => a' = (a.put o.dst (ptrV gp)).put oi'.dst v) hw (fun a' w' hw' he => ?_)
      ⟨oi', v, hoi, fun w1 hw1 => (hy w1 hw1).of_same (execOp_put oi' (fun cs b => hsel i oi' cs b hoi) a o.dst _ h1) (wanted_put oi' a o.dst _ h1), rfl⟩
    subst he
    rw [Act.put_comm a (ptrV gp) v h2, Array.setIfInBounds_comm _ _ (Ne.symm hin)]
    refine ih _ _ _ _ (by simp [hsz]) ?_ (nx hw hw') (heap_keepF hw' hx) hg hk
    rw [Array.setIfInBounds_comm _ _ hin]
    exact inv.set hi

/-- Before the cell is laid. -/
theorem any_pre {m n g : Nat} {L : Array Bool → Act → Prop} {Q' : Exit → Act → World → Prop} {o : Oper} {X : Obj} (hsel : ∀ (j : Nat) (o : Oper) cs b, ops[j]? = some o → o.op ≠ .select cs b)
    (hgt : gateB md ops m n = true) (hm : m ≤ ops.size) (hn : n < ops.size) (hlo : looseB md ops m n = true) (ho : ops[n]? = some o)
    (hW : ∀ t, Region.wanted o t = true) (hR : ∀ (a : Act) (w : World), (execOp a.eval o).run P w = .ok (.value (ptrV w.heap.size)) (w.alloc X))
    (hD : ∀ listed a w, L listed a → Cls w0 w → wpAny P md ops Q' (g + 1) listed a w)
    (hL : ∀ listed a w gp, L listed a → Cls w0 w → w.heap[gp]? = some X → w0.heap.size ≤ gp → wpAny P md ops Q' g (listed.setIfInBounds n true) (a.put o.dst (ptrV gp)) w) :
    ∀ (f : Nat) (listed : Array Bool) (a : Act) (w : World), ClInv md ops listed → Cls w0 w →
      headF P md ops w0 m n L f listed a → wpAny P md ops Q' (f + (g + 1)) listed a w := by
  intro f
  induction f with
  | zero =>
    intro listed a w inv hw h
    rw [Nat.zero_add]
    exact hD _ _ _ h hw
  | succ f ih =>
    intro listed a w inv hw h
    have h' := h
    obtain ⟨⟨i0, hi0, hne⟩, hall⟩ := h
    rw [Nat.add_right_comm]
    refine ⟨fun h0 => absurd h0 (List.ne_nil_of_mem hi0), fun i hi => ?_⟩
    by_cases hin : i = n
    · subst hin
      unfold wpOp
      simp only [ho, hW, if_true]
      left
      unfold Oper.wp
      rw [hR]
      simp only [Oper.upon]
      rw [show f + (g + 1) = (f + 1) + g by omega]
      exact any_post hsel hgt hm hn hlo ho hL (f + 1) listed a _ _ inv.size (inv.set hi) (nxAlloc hw _) (by show (w.heap.push X)[w.heap.size]? = _; simp) (Below.size hw) h'
    · obtain ⟨hlt, hq⟩ := hall i hi hin
      exact wpOp_of_qR hw (fun a' w' hw' hk => ih _ _ _ (inv.set hi) (nx hw hw') hk) hq

/-- The checks of a region whose first m operations are quiet, with a loose allocation at number n. -/
def floatB (md : Region.Mode) (ops : Array Oper) (m n : Nat) (Z : Array Bool) : Bool :=
  Region.noSelect ops && decide (m ≤ ops.size) && decide (m ≤ n) && decide (n < ops.size) && gateB md ops m n && looseB md ops m n && lexF md ops m Z m 0 (Array.replicate ops.size false)

theorem wpAny_mono {Q Q' : Exit → Act → World → Prop} (hQ : ∀ e a w, Q e a w → Q' e a w) : ∀ (f : Nat) (listed : Array Bool) (a : Act) (w : World), wpAny P md ops Q f listed a w → wpAny P md ops Q' f listed a w
  | 0, _, _, _, h => ⟨h.1, hQ _ _ _ h.2⟩
  | f + 1, listed, _, _, h => ⟨fun h0 => hQ _ _ _ (h.1 h0), fun i hi => by
      have h1 := wpOp_mono (fun a' w' h2 => wpAny_mono hQ f _ a' w' h2) (h.2 i hi)
      have hl : LetsOut Q → LetsOut Q' := fun ⟨a, w, h⟩ => ⟨a, w, hQ _ _ _ h⟩
      unfold wpOp at *
      split
      · rename_i ho; simpa only [ho] using h1
      · rename_i o ho
        simp only [ho] at h1
        split
        · rename_i hw
          simp only [hw, if_true] at h1
          refine h1.imp (fun h3 => ?_) (fun h3 => ⟨h3.1, hl h3.2⟩)
          unfold Oper.wp at *
          generalize (execOp _ o).run P _ = r at *
          cases r with
          | ok nx' w' =>
            cases nx' <;> simp only [Oper.upon] at h3 ⊢ <;> first
              | exact h3
              | exact Calls.mono h3 (fun e w'' he => by cases e <;> first | exact he | exact hQ _ _ _ he | exact hl he)
          | halt x w' =>
            cases x <;> simp only [Oper.upon] at h3 ⊢
            exact hQ _ _ _ h3
        · rename_i hw; simp only [hw] at h1; exact h1⟩

/-- Only the normal end. -/
def only (Q : Exit → Act → World → Prop) : Exit → Act → World → Prop := Exit.then (Q .normal) (fun _ _ _ => False)
theorem only_le {Q : Exit → Act → World → Prop} : ∀ e a w, only Q e a w → Q e a w := by
  intro e a w h
  cases e <;> first | exact h | exact False.elim h

/-- The first m operations are quiet; number n lays a cell, at any time; what else there is is shown in each order (the second time with the cell laid). -/
theorem wp_region_float {id : Nat} {Q : Exit → Act → World → Prop} {a : Act} {w : World} {l : List Oper} (m n : Nat) (Z : Array Bool) (o : Oper) (X : Obj) (hfm : P.follows .mixedOrders = true) (hB : floatB .any l.toArray m n Z = true)
    (ho' : l[n]? = some o) (hW : ∀ t, Region.wanted o t = true) (hR : ∀ (a : Act) (w : World), (execOp a.eval o).run P w = .ok (.value (ptrV w.heap.size)) (w.alloc X))
    (h : wpQuietR P l.toArray w (fun a' => (∀ w', Cls w w' → wpAny P .any l.toArray (only Q) (l.length - m) Z a' w') ∧
      ∀ gp w', Cls w w' → w'.heap[gp]? = some X → w.heap.size ≤ gp → wpAny P .any l.toArray (only Q) (l.length - m - 1) (Z.setIfInBounds n true) (a'.put o.dst (ptrV gp)) w') (l.take m) a) : (Code.region id l.toArray true).wp P Q a w := by
  simp only [floatB, Bool.and_eq_true, decide_eq_true_eq] at hB
  obtain ⟨⟨⟨⟨⟨⟨hsel, hm⟩, hmn⟩, hn⟩, hg⟩, hlo⟩, hlex⟩ := hB
  have ho : l.toArray[n]? = some o := by simpa using ho'
  have hm' : m ≤ l.length := by simpa using hm
  have hn' : n < l.length := by simpa using hn
  have htl : (l.take m).length = m := by simp; omega
  have inv0 : ClInv .any l.toArray (Array.replicate l.toArray.size false) := by
    refine ⟨by simp, fun j oj _ hl => ?_⟩
    rw [getD_replicate_false] at hl; cases hl
  have H := headF_lex (md := .any) (Z := Z) hsel hg hm hmn (l.take m) 0 _ a (fun j hj => by
    have hj' : j < m := by rw [htl] at hj; exact hj
    simp [hj']) (by simpa using htl) inv0 (by rw [htl]; exact hlex) h
  refine wp_region_any hfm (wpAny_mono only_le _ _ _ _ ?_)
  have := any_pre (Q' := only Q) (g := l.length - m - 1) (Region.noSelect_spec hsel) hg hm hn hlo ho hW hR
    (fun listed a' w' hL hw' => by
      have := hL.2.1 w' hw'
      rw [hL.1, show l.length - m - 1 + 1 = l.length - m by omega]
      exact this)
    (fun listed a' w' gp hL hw' hx hg => by rw [hL.1]; exact hL.2.2 gp w' hw' hx hg) _ _ _ _ inv0 ((Below.refl _ _).drew) H
  rw [htl, show m + (l.length - m - 1 + 1) = l.toArray.size by simp; omega] at this
  exact this
/-- Operations that yield one value in whatever world, in the text's order. -/
def wpPure (P : Program) (ops : Array Oper) (Q : Act → Prop) : List Oper → Act → Prop
  | [], a => Q a
  | o :: rest, a => ∃ v, Yields P ops o v a ∧ wpPure P ops Q rest (a.put o.dst v)
theorem wpPure_nil {Q : Act → Prop} {a : Act} (h : Q a) : wpPure P ops Q [] a := h
theorem wpPure_step {Q : Act → Prop} {a : Act} {o : Oper} {rest : List Oper}
    (h : ∀ K : Act → Prop, (∀ a, wpPure P ops Q rest a → K a) → if Region.wanted o (yielded ops a.tmps) then ∃ v, (∀ w, (execOp a.eval o).run P w = .ok (.value v) w) ∧ K (a.put o.dst v) else K (a.put o.dst undef)) : wpPure P ops Q (o :: rest) a := by
  have := h _ (fun _ h => h)
  unfold wpPure
  by_cases hw : Region.wanted o (yielded ops a.tmps) = true
  · rw [if_pos hw] at this
    obtain ⟨v, h1, h2⟩ := this
    exact ⟨v, .inl ⟨hw, h1⟩, h2⟩
  · rw [if_neg hw] at this
    exact ⟨undef, .inr ⟨by simpa using hw, rfl⟩, this⟩

/-- So many of them, from number k on, may be taken first; then all is forced from number e on. -/
def lexTo (md : Region.Mode) (ops : Array Oper) (g e : Nat) : Nat → Nat → Array Bool → Bool
  | 0, _, listed => Region.seqB md ops g e listed
  | f + 1, k, listed => (Region.ready md ops listed).contains k && Region.free md ops listed k && lexTo md ops g e f (k + 1) (listed.setIfInBounds k true)

theorem any_of_pure {g e : Nat} {Q' : Exit → Act → World → Prop} {C : World → Prop} {Lq : Act → Prop} (hsel : Region.noSelect ops = true) (hQ : ∀ c a w, ¬ Q' (.panic c) a w)
    (hL : ∀ listed a w, Region.seqB md ops g e listed = true → Lq a → C w → wpAny P md ops Q' g listed a w) :
    ∀ (l : List Oper) (k : Nat) (listed : Array Bool) (a : Act) (w : World), (∀ j, j < l.length → l[j]? = ops[k + j]?) → lexTo md ops g e l.length k listed = true → wpPure P ops Lq l a → C w → wpAny P md ops Q' (l.length + g) listed a w
  | [], _, listed, a, w, _, hB, h, hw => by
    rw [List.length_nil, Nat.zero_add]
    exact hL _ _ _ (by simpa [lexTo] using hB) h hw
  | o :: l, k, listed, a, w, hl, hB, h, hw => by
    have h0 : ops[k]? = some o := by simpa using (hl 0 (by simp)).symm
    simp only [List.length_cons, lexTo, Bool.and_eq_true] at hB
    obtain ⟨⟨hr, hf⟩, hB'⟩ := hB
    obtain ⟨v, hy, hK⟩ := h
    rw [List.length_cons, Nat.add_right_comm]
    refine wpAny_first h0 (Region.noSelect_spec hsel) (fun c a w h => absurd h (hQ _ _ _)) _ listed a w (Region.free_spec h0 hf) (by simpa using hr) hy ?_
    refine any_of_pure hsel hQ hL l (k + 1) _ _ w (fun j hj => ?_) hB' hK hw
    have := hl (j + 1) (by simp; omega)
    simpa [Nat.add_assoc, Nat.add_comm 1 j] using this

theorem wpPure_put {o : Oper} {x : Value} {Lq : Act → Prop} (hsel : ∀ (j : Nat) (o : Oper) cs b, ops[j]? = some o → o.op ≠ .select cs b) : ∀ (l : List Oper) (k : Nat) (a : Act), (∀ j, j < l.length → l[j]? = ops[k + j]?) → (∀ oi ∈ l, o.apart ops oi = true) →
    wpPure P ops (fun a => Lq (a.put o.dst x)) l a → wpPure P ops Lq l (a.put o.dst x)
  | [], _, _, _, _, h => h
  | oi :: l, k, a, hl, hap, h => by
    have h0 : ops[k]? = some oi := by simpa using (hl 0 (by simp)).symm
    obtain ⟨v, hy, hK⟩ := h
    obtain ⟨h1, h2, _⟩ := Oper.apart_spec (hap oi (by simp))
    refine ⟨v, hy.of_same (execOp_put oi (fun cs b => hsel k oi cs b h0) a o.dst x h1) (wanted_put oi a o.dst x h1), ?_⟩
    rw [Act.put_comm a x v h2]
    refine wpPure_put hsel l (k + 1) _ (fun j hj => ?_) (fun o' ho' => hap o' (by simp [ho'])) hK
    have := hl (j + 1) (by simp; omega)
    simpa [Nat.add_assoc, Nat.add_comm 1 j] using this

theorem wpQuietR_mono {Q Q' : Act → Prop} (h : ∀ a, Q a → Q' a) : ∀ (l : List Oper) (a : Act), wpQuietR P ops w0 Q l a → wpQuietR P ops w0 Q' l a
  | [], a, hh => h a hh
  | _ :: l, _, ⟨v, h1, h2⟩ => ⟨v, h1, wpQuietR_mono h l _ h2⟩
theorem wpPure_mono {Q Q' : Act → Prop} (h : ∀ a, Q a → Q' a) : ∀ (l : List Oper) (a : Act), wpPure P ops Q l a → wpPure P ops Q' l a
  | [], a, hh => h a hh
  | _ :: l, _, ⟨v, h1, h2⟩ => ⟨v, h1, wpPure_mono h l _ h2⟩

/-- The checks, with pure operations m .. n-1 between. -/
def floatPB (md : Region.Mode) (ops : Array Oper) (m n : Nat) (Z : Array Bool) : Bool :=
  floatB md ops m n Z && ((ops.toList.drop m).take (n - m)).all (fun oi => match ops[n]? with
    | some o => o.apart ops oi
    | none => false) &&
  lexTo md ops (ops.size - n) n (n - m) m Z && lexTo md ops (ops.size - n - 1) (n + 1) (n - m) m (Z.setIfInBounds n true)

/-- The first m operations are quiet, those from m up to n pure; number n lays a cell, at any time; the rest, in one forced order, is walked. -/
theorem wp_region_floatP {id : Nat} {Q : Exit → Act → World → Prop} {a : Act} {w : World} {l : List Oper} (m n : Nat) (Z : Array Bool) (o : Oper) (X : Obj) (hfm : P.follows .mixedOrders = true) (hB : floatPB .any l.toArray m n Z = true)
    (ho' : l[n]? = some o) (hW : ∀ t, Region.wanted o t = true) (hR : ∀ (a : Act) (w : World), (execOp a.eval o).run P w = .ok (.value (ptrV w.heap.size)) (w.alloc X))
    (h : wpQuietR P l.toArray w (wpPure P l.toArray (fun a' => ∀ gp w', Cls w w' → w'.heap[gp]? = some X → w.heap.size ≤ gp → wpList P l.toArray (only Q) (l.drop (n + 1)) (a'.put o.dst (ptrV gp)) w') ((l.drop m).take (n - m))) (l.take m) a) : (Code.region id l.toArray true).wp P Q a w := by
  simp only [floatPB, Bool.and_eq_true] at hB
  obtain ⟨⟨⟨hB, hap⟩, hp1⟩, hp2⟩ := hB
  have ho : l.toArray[n]? = some o := by simpa using ho'
  have hB' := hB
  simp only [floatB, Bool.and_eq_true, decide_eq_true_eq] at hB'
  obtain ⟨⟨⟨⟨⟨⟨hsel, hm⟩, hmn⟩, hn⟩, _⟩, _⟩, _⟩ := hB'
  have hn' : n < l.length := by simpa using hn
  have hsz : l.toArray.size = l.length := by simp
  have hln : ((l.drop m).take (n - m)).length = n - m := by simp; omega
  have hget : ∀ j, j < ((l.drop m).take (n - m)).length → ((l.drop m).take (n - m))[j]? = l.toArray[m + j]? := by
    intro j hj
    rw [hln] at hj
    simp [hj]
  have hap' : ∀ oi ∈ (l.drop m).take (n - m), o.apart l.toArray oi = true := by
    intro oi hoi
    have := List.all_eq_true.1 hap oi (by simpa using hoi)
    rw [ho] at this
    exact this
  refine wp_region_float m n Z o X hfm hB ho' hW hR (wpQuietR_mono (fun a' ha' => ⟨fun w' hw' => ?_, fun gp w' hw' hx hg => ?_⟩) _ _ h)
  · have := any_of_pure (md := .any) (g := l.toArray.size - n) (e := n) (Q' := only Q) (C := Cls w) hsel (fun _ _ _ h => h) (fun listed a w1 hq hL hw1 => by
      have eg : l.toArray.size - n = (l.length - n - 1) + 1 := by omega
      rw [eg] at hq ⊢
      simp only [Region.seqB, Bool.and_eq_true, decide_eq_true_eq] at hq
      refine ⟨fun h0 => (by rw [hq.1] at h0; cases h0), fun i hi => ?_⟩
      rw [hq.1] at hi
      obtain rfl : i = n := by simpa using hi
      unfold wpOp
      simp only [ho, hW, if_true]
      left
      unfold Oper.wp
      rw [hR]
      simp only [Oper.upon]
      have hdl : (l.drop (i + 1)).length = l.length - i - 1 := by simp; omega
      have := wpAny_of_seq (md := .any) (Q' := only Q) (l.drop (i + 1)) (i + 1) (listed.setIfInBounds i true) _ _ (fun j => by simp [List.getElem?_drop]) (by rw [hdl]; exact hq.2) (hL w1.heap.size _ (nxAlloc hw1 X) (by show (w1.heap.push X)[w1.heap.size]? = _; simp) (Below.size hw1))
      rwa [hdl] at this) _ m Z a' w' hget (by rw [hln]; exact hp1) ha' hw'
    rw [hln, show n - m + (l.toArray.size - n) = l.length - m by omega] at this
    exact this
  · have hdl : (l.drop (n + 1)).length = l.toArray.size - n - 1 := by simp; omega
    have hP := wpPure_put (o := o) (x := ptrV gp) (Lq := fun a => ∀ w', Cls w w' → w'.heap[gp]? = some X → wpList P l.toArray (only Q) (l.drop (n + 1)) a w') (Region.noSelect_spec hsel) _ m a' hget hap' (wpPure_mono (fun a h w' hw' hx => h gp w' hw' hx hg) _ _ ha')
    have := any_of_pure (md := .any) (g := l.toArray.size - n - 1) (e := n + 1) (Q' := only Q) (C := fun w' => Cls w w' ∧ w'.heap[gp]? = some X) hsel (fun _ _ _ h => h) (fun listed a w1 hq hL hw1 => by
      have := wpAny_of_seq (md := .any) (Q' := only Q) (l.drop (n + 1)) (n + 1) listed a w1 (fun j => by simp [List.getElem?_drop]) (by rw [hdl]; exact hq) (hL w1 hw1.1 hw1.2)
      rwa [hdl] at this) _ m _ _ w' hget (by rw [hln]; exact hp2) hP ⟨hw', hx⟩
    rw [hln, show n - m + (l.toArray.size - n - 1) = l.length - m - 1 by omega] at this
    exact this
end
/-- What follows behind a variable. -/
theorem only_hide {P : Program} {ops : Array Oper} {Q : Exit → Act → World → Prop} {l : List Oper} {a : Act} {w : World}
    (h : ∀ K : Act → World → Prop, (∀ a w, Q .normal a w → K a w) → wpList P ops (Exit.then K (fun _ _ _ => False)) l a w) : wpList P ops (only Q) l a w := h (Q .normal) (fun _ _ h => h)
theorem callR {P : Program} {f : FuncId} {args : Array Value} {w : World} {v : Value} (k : Calls P f args w (Gives v w)) : Calls P f args w fun e w'' => e = .returned v ∧ Cls w w'' := k
end Go.Proofs.YtdhjchibhlcchaaDoor

/-! HeldW -/
namespace Go.Proofs.YtdhjchibhlcchaaDoor
open Go.RowKit

section
variable {P : Program} {ops : Array Oper} {Q : Exit → Act → World → Prop} {md : Region.Mode}

theorem held_mono {S S' : World → Prop} (hSS : ∀ w, S' w → S w) : ∀ (fuel : Nat) (listed : Array Bool) (a : Act) (w : World),
    wpAnyH P md ops Q S' fuel listed a w → wpAnyH P md ops Q S fuel listed a w
  | 0, _, _, _, h => h
  | fuel + 1, _, _, _, h => ⟨h.1, fun i hi => wpOp_mono (fun a' w' h' => ⟨hSS _ h'.1, held_mono hSS fuel _ a' w' h'.2⟩) (h.2 i hi)⟩

/-- One operation alone may come up; behind it the condition may be another one. -/
theorem held_one {S : World → Prop} {fuel : Nat} {listed : Array Bool} {a : Act} {w : World} (i : Nat) {o : Oper} (ho : ops[i]? = some o) (hr : Region.ready md ops listed = [i])
    (h : ∀ K' : Act → World → Prop, Shut (∀ (S' : World → Prop) a w, (∀ w, S' w → S w) → S' w → wpAnyH P md ops Q S' fuel (listed.setIfInBounds i true) a w → K' a w) → if Region.wanted o (yielded ops a.tmps) = true then Oper.wp P o a w K' Q else K' (a.put o.dst undef) w) :
    wpAnyH P md ops Q S (fuel + 1) listed a w :=
  wpAnyH_ready hr (by simp) (AllReadyH.cons ho (fun K hK => h K (fun _ a w hSS hS hW => hK.out a w (hSS _ hS) (fun _ => held_mono hSS _ _ _ _ hW))) AllReadyH.nil)
/-- Two operations may come up, whichever first. -/
theorem held_two {S : World → Prop} {fuel : Nat} {listed : Array Bool} {a : Act} {w : World} (i j : Nat) {oi oj : Oper} (hoi : ops[i]? = some oi) (hoj : ops[j]? = some oj) (hr : Region.ready md ops listed = [i, j])
    (h : ∀ K' : Act → World → Prop, Shut (∀ (S' : World → Prop) a w, (∀ w, S' w → S w) → S' w → wpAnyH P md ops Q S' fuel (listed.setIfInBounds i true) a w → K' a w) → if Region.wanted oi (yielded ops a.tmps) = true then Oper.wp P oi a w K' Q else K' (a.put oi.dst undef) w)
    (k : ∀ K' : Act → World → Prop, Shut (∀ (S' : World → Prop) a w, (∀ w, S' w → S w) → S' w → wpAnyH P md ops Q S' fuel (listed.setIfInBounds j true) a w → K' a w) → if Region.wanted oj (yielded ops a.tmps) = true then Oper.wp P oj a w K' Q else K' (a.put oj.dst undef) w) :
    wpAnyH P md ops Q S (fuel + 1) listed a w :=
  wpAnyH_ready hr (by simp) (AllReadyH.cons hoi (fun K hK => h K (fun _ a w hSS hS hW => hK.out a w (hSS _ hS) (fun _ => held_mono hSS _ _ _ _ hW)))
    (AllReadyH.cons hoj (fun K hK => k K (fun _ a w hSS hS hW => hK.out a w (hSS _ hS) (fun _ => held_mono hSS _ _ _ _ hW))) AllReadyH.nil))
end
end Go.Proofs.YtdhjchibhlcchaaDoor

/-! Place -/
namespace Go.Proofs.YtdhjchibhlcchaaDoor
open Go.RowKit

theorem head_of {l : List UInt8} {c : UInt8} (h : (l.head? == some c) = true) : ∃ r, l = c :: r := by
  cases l with
  | nil => simp at h
  | cons a r => simp at h; exact ⟨r, by rw [h]⟩

set_option maxHeartbeats 1000000 in
theorem place_any (k : Nat) : ∀ (s : ByteArray) (w : World), s.size < k → s.size ≤ 9223372036854775806 →
    Calls Tryd.prog 43 #[.string s] w (PlacePost (parseN k s.data.toList) s w) := by
  induction k with
  | zero => intro s w h; omega
  | succ k ih =>
    intro s w hk hs
    have ih_no : ∀ (s : ByteArray) (w : World), s.size < k → s.size ≤ 9223372036854775806 → parseN k s.data.toList = none → Calls Tryd.prog 43 #[.string s] w (PlaceNo w) := by
      intro s w h1 h2 h3
      have := ih s w h1 h2
      rw [h3] at this
      exact this
    have ih_yes : ∀ (s : ByteArray) (w : World) (t : Tr) (r : List UInt8), s.size < k → s.size ≤ 9223372036854775806 → parseN k s.data.toList = some (t, r) → Calls Tryd.prog 43 #[.string s] w (PlaceOk t r s w) := by
      intro s w t r h1 h2 h3
      have := ih s w h1 h2
      rw [h3] at this
      exact this
    clear ih
    cases h46 : (s.data.toList.head? == some 46) with
    | true =>
      obtain ⟨r, hr⟩ := head_of h46
      have HP : parseN (k + 1) s.data.toList = some (.lf, r) := by rw [hr, parseN, if_pos rfl]
      rw [HP]
      show Calls _ _ _ _ (PlaceOk .lf r s w)
      have HR := Lib.hid hr
      clear hr HP h46
      go_enter Tryd.func43, Tryd.ntmps43
      go_wp2_with (go_at_call 25; refine (cut_yes s _ r _ hs HR.out).mono ?_; rintro e w' ⟨s', h1, h2, rfl, rfl⟩; have H1 := Lib.hid h1; clear h1)
      go_ret2
      exact ⟨_, _, H1.out, h2, heap_alloc_at _ _, (Below.refl _ _).alloc (Nat.le_refl _) _, rfl⟩
    | false =>
      cases h40 : (s.data.toList.head? == some 40) with
      | false =>
        have HP : parseN (k + 1) s.data.toList = none := by
          cases hl : s.data.toList with
          | nil => rfl
          | cons c r =>
            rw [hl] at h46 h40
            have h1 : ¬ c = 46 := by simpa using h46
            have h2 : ¬ c = 40 := by simpa using h40
            rw [parseN, if_neg h1, if_neg h2]
        rw [HP]
        show Calls _ _ _ _ (PlaceNo w)
        go_enter Tryd.func43, Tryd.ntmps43
        go_wp2_with fail
        refine (cut_no s 46 _ hs h46).mono ?_; rintro e w' ⟨rfl, rfl⟩
        go_wp2_with fail
        refine (cut_no s 40 _ hs h40).mono ?_; rintro e w' ⟨rfl, rfl⟩
        go_wp2_with fail
        go_ret2
        exact ⟨Below.refl _ _, rfl⟩
      | true =>
        obtain ⟨r, hr⟩ := head_of h40
        have HR := Lib.hid hr
        have hz : s.size = r.length + 1 := by rw [Lib.size_eq, hr]; rfl
        have HZ := Lib.hid hz
        clear h40 hz
        cases hp1 : parseN k r with
        | none =>
          have HP : parseN (k + 1) s.data.toList = none := by rw [hr, parseN, if_neg (by decide), if_pos rfl, hp1]
          rw [HP]
          show Calls _ _ _ _ (PlaceNo w)
          have H1 := Lib.hid hp1
          clear HP hr hp1
          go_enter Tryd.func43, Tryd.ntmps43
          go_wp2_with fail
          refine (cut_no s 46 _ hs h46).mono ?_; rintro e w' ⟨rfl, rfl⟩
          go_wp2_with fail
          refine (cut_yes s 40 r _ hs HR.out).mono ?_; rintro e w' ⟨s1, hs1, hz1, rfl, rfl⟩; have HS1 := Lib.hid hs1; clear hs1
          go_wp2_with fail
          refine (ih_no s1 _ (by omega) (by omega) (by rw [HS1.out]; exact H1.out)).mono ?_; rintro e w1 ⟨hb1, rfl⟩
          go_wp2_with fail
          go_ret2
          exact ⟨hb1, rfl⟩
        | some p1 =>
          obtain ⟨t1, r1⟩ := p1
          have hl1 := parseN_len hp1
          cases hp2 : parseN k r1 with
          | none =>
            have HP : parseN (k + 1) s.data.toList = none := by rw [hr, parseN, if_neg (by decide), if_pos rfl, hp1]; show (match parseN k r1 with | none => none | some (t2, r2) => _) = _; rw [hp2]
            rw [HP]
            show Calls _ _ _ _ (PlaceNo w)
            have H1 := Lib.hid hp1
            have H2 := Lib.hid hp2
            clear HP hr hp1 hp2
            go_enter Tryd.func43, Tryd.ntmps43
            go_wp2_with fail
            refine (cut_no s 46 _ hs h46).mono ?_; rintro e w' ⟨rfl, rfl⟩
            go_wp2_with fail
            refine (cut_yes s 40 r _ hs HR.out).mono ?_; rintro e w' ⟨s1, hs1, hz1, rfl, rfl⟩; have HS1 := Lib.hid hs1; clear hs1
            go_wp2_with fail
            refine (ih_yes s1 _ _ _ (by omega) (by omega) (by rw [HS1.out]; exact H1.out)).mono ?_; rintro e w1 ⟨b1, s2, hs2, hz2, hn1, hb1, rfl⟩; have HS2 := Lib.hid hs2; clear hs2
            go_wp2_with fail
            refine (ih_no s2 _ (by omega) (by omega) (by rw [HS2.out]; exact H2.out)).mono ?_; rintro e w2 ⟨hb2, rfl⟩
            go_wp2_with fail
            go_ret2
            exact ⟨hb1.trans (hb2.mono hb1.size), rfl⟩
          | some p2 =>
            obtain ⟨t2, r2⟩ := p2
            have hl2 := parseN_len hp2
            cases h41 : (r2.head? == some 41) with
            | false =>
              have HP : parseN (k + 1) s.data.toList = none := by
                rw [hr, parseN, if_neg (by decide), if_pos rfl, hp1]
                show (match parseN k r1 with | none => none | some (t2, r2) => _) = _
                rw [hp2]
                cases r2 with
                | nil => rfl
                | cons c r3 =>
                  have h1 : ¬ c = 41 := by simpa using h41
                  simp [h1]
              rw [HP]
              show Calls _ _ _ _ (PlaceNo w)
              have H1 := Lib.hid hp1
              have H2 := Lib.hid hp2
              have H3 := Lib.hid h41
              clear HP hr hp1 hp2 h41
              go_enter Tryd.func43, Tryd.ntmps43
              go_wp2_with fail
              refine (cut_no s 46 _ hs h46).mono ?_; rintro e w' ⟨rfl, rfl⟩
              go_wp2_with fail
              refine (cut_yes s 40 r _ hs HR.out).mono ?_; rintro e w' ⟨s1, hs1, hz1, rfl, rfl⟩; have HS1 := Lib.hid hs1; clear hs1
              go_wp2_with fail
              refine (ih_yes s1 _ _ _ (by omega) (by omega) (by rw [HS1.out]; exact H1.out)).mono ?_; rintro e w1 ⟨b1, s2, hs2, hz2, hn1, hb1, rfl⟩; have HS2 := Lib.hid hs2; clear hs2
              go_wp2_with fail
              refine (ih_yes s2 _ _ _ (by omega) (by omega) (by rw [HS2.out]; exact H2.out)).mono ?_; rintro e w2 ⟨b2, s3, hs3, hz3, hn2, hb2, rfl⟩; have HS3 := Lib.hid hs3; clear hs3
              go_wp2_with fail
              refine (cut_no s3 41 _ (by omega) (by rw [HS3.out]; exact H3.out)).mono ?_; rintro e w' ⟨rfl, rfl⟩
              go_wp2_with fail
              go_ret2
              exact ⟨hb1.trans (hb2.mono hb1.size), rfl⟩
            | true =>
              obtain ⟨r3, hr3⟩ := head_of h41
              have HP : parseN (k + 1) s.data.toList = some (.nd t1 t2, r3) := by
                rw [hr, parseN, if_neg (by decide), if_pos rfl, hp1]
                show (match parseN k r1 with | none => none | some (t2, r2) => _) = _
                rw [hp2, hr3]
                simp
              rw [HP]
              show Calls _ _ _ _ (PlaceOk (.nd t1 t2) r3 s w)
              have H1 := Lib.hid hp1
              have H2 := Lib.hid hp2
              have H3 := Lib.hid hr3
              clear HP hr hp1 hp2 h41 hr3
              go_enter Tryd.func43, Tryd.ntmps43
              go_wp2_with fail
              refine (cut_no s 46 _ hs h46).mono ?_; rintro e w' ⟨rfl, rfl⟩
              go_wp2_with fail
              refine (cut_yes s 40 r _ hs HR.out).mono ?_; rintro e w' ⟨s1, hs1, hz1, rfl, rfl⟩; have HS1 := Lib.hid hs1; clear hs1
              go_wp2_with fail
              refine (ih_yes s1 _ _ _ (by omega) (by omega) (by rw [HS1.out]; exact H1.out)).mono ?_; rintro e w1 ⟨b1, s2, hs2, hz2, hn1, hb1, rfl⟩; have HS2 := Lib.hid hs2; clear hs2
              go_wp2_with fail
              refine (ih_yes s2 _ _ _ (by omega) (by omega) (by rw [HS2.out]; exact H2.out)).mono ?_; rintro e w2 ⟨b2, s3, hs3, hz3, hn2, hb2, rfl⟩; have HS3 := Lib.hid hs3; clear hs3
              go_wp2_with fail
              refine (cut_yes s3 41 r3 _ (by omega) (by rw [HS3.out]; exact H3.out)).mono ?_; rintro e w' ⟨s4, hs4, hz4, rfl, rfl⟩; have HS4 := Lib.hid hs4; clear hs4
              go_wp2_with fail
              go_ret2
              have hb3 : Below w2.heap.size w2 (w2.alloc (.cells #[.pointer (some ⟨b1, 0, none⟩), .pointer (some ⟨b2, 0, none⟩)] 67 (0, 0))) := (Below.refl _ _).alloc (Nat.le_refl _) _
              exact ⟨_, _, HS4.out, by omega, ⟨b1, b2, heap_alloc_at _ _, (hn1.keep hb2).keep hb3, hn2.keep hb3⟩, (hb1.trans (hb2.mono hb1.size)).trans (hb3.mono (Nat.le_trans hb1.size hb2.size)), rfl⟩
end Go.Proofs.YtdhjchibhlcchaaDoor

/-! Read -/
namespace Go.Proofs.YtdhjchibhlcchaaDoor
open Go.RowKit

def ReadOk (t : Tr) (w : World) (e : Ending) (w' : World) : Prop :=
  ∃ b : Nat, NodeAt w' t b ∧ Below w.heap.size w w' ∧ e = .returned (.tuple #[.pointer (some ⟨b, 0, none⟩), .bool true])
def ReadNo (w : World) (e : Ending) (w' : World) : Prop :=
  Below w.heap.size w w' ∧ e = .returned (.tuple #[.pointer none, .bool false])

theorem treeOf_of_parse {s : ByteArray} {t : Tr} (h : parseN (s.size + 1) s.data.toList = some (t, [])) (hz : s.size ≤ 25) : treeOf s = some t := by
  have e := str_of_list (show s.data.toList = t.text by simpa using parseN_sound _ _ _ _ h)
  subst e
  exact treeOf_str t (by rw [Tr.str_size] at hz; omega)

theorem read_yes (t : Tr) (w : World) (h : t.carets ≤ 8) :
    Calls Tryd.prog 67 #[.string t.str] w (ReadOk t w) := by
  have hz := t.str_size
  have hp := place_any (t.str.size + 1) t.str
  rw [parse_str t _ (by have := t.text_len; omega)] at hp
  have hp' : ∀ w, Calls Tryd.prog 43 #[.string t.str] w (PlaceOk t [] t.str w) := fun w => hp w (by omega) (by omega)
  have hz' : t.str.size ≤ 25 := by omega
  clear hz hp
  go_enter Tryd.func67, Tryd.ntmps67
  go_wp2_with fail
  refine (hp' _).mono ?_; rintro e w1 ⟨b1, s1, hs1, hz1, hn1, hb1, rfl⟩; have e1 : s1.toList.isEmpty = true := by rw [Lib.toList_data, hs1]; rfl
  have e2 : s1.toList = [] := by rw [Lib.toList_data, hs1]
  clear hs1
  go_wp2_with fail
  go_ret2
  exact ⟨b1, hn1, hb1, rfl⟩

theorem read_no (s : ByteArray) (w : World) (hs : s.size ≤ 9223372036854775806) (h : treeOf s = none) :
    Calls Tryd.prog 67 #[.string s] w (ReadNo w) := by
  by_cases hz : (s.size : Int) ≤ 25
  · have hp := place_any (s.size + 1) s
    cases hq : parseN (s.size + 1) s.data.toList with
    | none =>
      rw [hq] at hp
      have hp' : ∀ w, Calls Tryd.prog 43 #[.string s] w (PlaceNo w) := fun w => hp w (by omega) hs
      clear hp h hq
      go_enter Tryd.func67, Tryd.ntmps67
      go_wp2_with fail
      refine (hp' _).mono ?_; rintro e w1 ⟨hb1, rfl⟩
      go_wp2_with fail
      go_ret2
      exact ⟨hb1, rfl⟩
    | some p =>
      obtain ⟨t, r⟩ := p
      rw [hq] at hp
      have hp' : ∀ w, Calls Tryd.prog 43 #[.string s] w (PlaceOk t r s w) := fun w => hp w (by omega) hs
      cases r with
      | nil => rw [treeOf_of_parse hq (by omega)] at h; simp at h
      | cons c r =>
        clear hp h hq
        go_enter Tryd.func67, Tryd.ntmps67
        go_wp2_with fail
        refine (hp' _).mono ?_; rintro e w1 ⟨b1, s1, hs1, hz1, hn1, hb1, rfl⟩; have e1 : s1.toList.isEmpty = false := by rw [Lib.toList_data, hs1]; rfl
        clear hs1
        go_wp2_with fail
        go_ret2
        exact ⟨hb1, rfl⟩
  · clear h
    go_enter Tryd.func67, Tryd.ntmps67
    go_wp2_with fail
    go_ret2
    exact ⟨Below.refl _ _, rfl⟩

theorem implIsTree_yes (t : Tr) (w : World) (h : t.carets ≤ 8) :
    Calls Tryd.prog 41 #[.string t.str] w fun e w' => Below w.heap.size w w' ∧ e = .returned (.bool true) := by
  go_enter Tryd.func41, Tryd.ntmps41
  go_wp2_with fail
  refine (read_yes t _ h).mono ?_; rintro e w1 ⟨b1, hn1, hb1, rfl⟩
  go_wp2_with fail
  go_ret
  exact ⟨hb1, rfl⟩

theorem implIsTree_no (s : ByteArray) (w : World) (hs : s.size ≤ 9223372036854775806) (h : treeOf s = none) :
    Calls Tryd.prog 41 #[.string s] w fun e w' => Below w.heap.size w w' ∧ e = .returned (.bool false) := by
  have H := Lib.hid h
  clear h
  go_enter Tryd.func41, Tryd.ntmps41
  go_wp2_with fail
  refine (read_no s _ hs H.out).mono ?_; rintro e w1 ⟨hb1, rfl⟩
  go_wp2_with fail
  go_ret
  exact ⟨hb1, rfl⟩

end Go.Proofs.YtdhjchibhlcchaaDoor

/-! TreeO -/
namespace Go.Proofs.YtdhjchibhlcchaaDoor
open Go.RowKit

theorem keep_cell {w w' : World} {b o : Nat} {v : Value} (hb : Below w.heap.size w w') (h : w.cell? ⟨b, o, none⟩ = some v) : w'.cell? ⟨b, o, none⟩ = some v :=
  (hb.cell (p := ⟨b, o, none⟩) (World.block_lt_of_cell? _ _ h)).trans h

theorem treeOf_any (t : Tr) (w : World) (h : t.carets ≤ 1000) : Calls Tryd.prog 23 #[.string t.str] w (GivesNode t w) := by
  have hz := t.str_size
  have hp := place_any (t.str.size + 1) t.str
  rw [parse_str t _ (by have := t.text_len; omega)] at hp
  have hp' : ∀ w, Calls Tryd.prog 43 #[.string t.str] w (PlaceOk t [] t.str w) := fun w => hp w (by omega) (by omega)
  clear hz hp
  go_enter Tryd.func23, Tryd.ntmps23
  go_wp2_with fail
  refine (hp' _).mono ?_; rintro e w1 ⟨b1, s1, hs1, hz1, hn1, hb1, rfl⟩
  clear hs1 hz1
  go_wp2_with fail
  go_ret
  exact ⟨b1, hn1, hb1, rfl⟩

end Go.Proofs.YtdhjchibhlcchaaDoor

/-! Gt1 -/
namespace Go.Proofs.YtdhjchibhlcchaaDoor
open Go.RowKit

/-- The digits of a number. -/
def numT (n : Nat) : ByteArray := ⟨(Lib.decDigits n).toArray⟩
theorem numT_small {n : Nat} (h : n < 10) : numT n = ⟨#[UInt8.ofNat (48 + n)]⟩ := by
  unfold numT
  rw [Lib.decDigits, dif_pos h]
theorem numT_big {n : Nat} (h : ¬ n < 10) : numT n = numT (n / 10) ++ ⟨#[UInt8.ofNat (48 + n % 10)]⟩ := by
  unfold numT
  rw [Lib.decDigits, dif_neg h]
  exact ba_ext (by simp)
theorem numT_size (n : Nat) (h : n ≤ 9999) : (numT n).size ≤ 4 := by
  have b1 : ∀ d : UInt8, (⟨#[d]⟩ : ByteArray).size = 1 := fun _ => rfl
  by_cases h1 : n < 10
  · rw [numT_small h1, b1]; omega
  · rw [numT_big h1, ByteArray.size_append, b1]
    by_cases h2 : n / 10 < 10
    · rw [numT_small h2, b1]; omega
    · rw [numT_big h2, ByteArray.size_append, b1]
      by_cases h3 : n / 10 / 10 < 10
      · rw [numT_small h3, b1]; omega
      · rw [numT_big h3, ByteArray.size_append, b1, numT_small (by omega), b1]; omega
theorem digit_nat {n : Nat} (h : n < 10) : (UInt8.ofNat (48 + n)).toNat = 48 + n := by
  have : n = 0 ∨ n = 1 ∨ n = 2 ∨ n = 3 ∨ n = 4 ∨ n = 5 ∨ n = 6 ∨ n = 7 ∨ n = 8 ∨ n = 9 := by omega
  rcases this with e | e | e | e | e | e | e | e | e | e <;> (subst e; rfl)
theorem one_text (d : UInt8) (g : Nat) (w : World) (h : w.cell? ⟨g, 0, none⟩ = some (.int .u8 (d.toNat : Int))) :
    (convert 79 9 (.slice (some ⟨g, 0, none⟩) 1 1)).run Tryd.prog w = .ok (.string ⟨#[d]⟩) w :=
  run_convert_bytes_back (P := Tryd.prog) w 79 9 5 ⟨g, 0, none⟩ 1 [d] Tryd.underlying79 Tryd.underlying5 Tryd.underlying9 (fun jj hjj => by
    obtain rfl : jj = 0 := by simpa using hjj
    simpa [Addr.add] using h)
set_option maxRecDepth 100000 in
set_option maxHeartbeats 2000000 in
theorem l1Num_small (n : Nat) (w : World) (h : n < 10) : Calls Tryd.prog 48 #[.int .i64 n] w (Gives (.string (numT n)) w) := by
  rw [numT_small h]
  have hd := digit_nat h
  have hval : 48 + (n : Int) = ((UInt8.ofNat (48 + n)).toNat : Int) := by rw [hd]; omega
  have h' : (n : Int) < 10 := by omega
  generalize UInt8.ofNat (48 + n) = d at *
  have hconv := one_text d w.heap.size (w.alloc (.cells #[.int .u8 (d.toNat : Int)] 5 (0, 0))) (new1 w (.int .u8 (d.toNat : Int)) 5 0 _ rfl)
  rw [← hval] at hconv
  clear hd h hval
  go_enter Tryd.func48, Tryd.ntmps48
  go_wp2_with fail
  go_ret
  exact ⟨rfl, nxAlloc (Below.refl _ _) _⟩
set_option maxRecDepth 100000 in
set_option maxHeartbeats 4000000 in
theorem l1Num_any : ∀ (k n : Nat) (w : World), n ≤ k → n ≤ 9999 → Calls Tryd.prog 48 #[.int .i64 n] w (Gives (.string (numT n)) w) := by
  intro k
  induction k with
  | zero => intro n w h _; exact l1Num_small n w (by omega)
  | succ k ih =>
    intro n w hk h9
    by_cases h : n < 10
    · exact l1Num_small n w h
    · have hI := fun w => ih (n / 10) w (by omega) (by omega)
      rw [numT_big h]
      have hsz := numT_size (n / 10) (by omega)
      have hd := digit_nat (n := n % 10) (by omega)
      have hq : ((n / 10 : Nat) : Int) = IntKind.i64.wrap ((n : Int).tdiv 10) := by rw [Int.tdiv_eq_ediv_of_nonneg (by omega), IntKind.wrap_i64] <;> omega
      have hval : 48 + (n : Int) % 10 = ((UInt8.ofNat (48 + n % 10)).toNat : Int) := by rw [hd]; omega
      have hraw : IntKind.u8.wrap (IntKind.i64.wrap (48 + (n : Int).tmod 10)) = ((UInt8.ofNat (48 + n % 10)).toNat : Int) := by
        rw [← hval, Int.tmod_eq_emod_of_nonneg (by omega)]
        have e : IntKind.i64.wrap (48 + (n : Int) % 10) = 48 + (n : Int) % 10 := by rw [IntKind.wrap_i64] <;> omega
        rw [e, IntKind.wrap_u8]; omega
      rw [hq] at hI
      have h' : ¬ (n : Int) < 10 := by omega
      generalize numT (n / 10) = T at *
      generalize UInt8.ofNat (48 + n % 10) = d at *
      have hcv : ∀ (g : Nat) (w' : World), w'.cell? ⟨g, 0, none⟩ = some (.int .u8 (IntKind.u8.wrap (IntKind.i64.wrap (48 + (n : Int).tmod 10)))) → (convert 79 9 (.slice (some ⟨g, 0, none⟩) 1 1)).run Tryd.prog w' = .ok (.string ⟨#[d]⟩) w' := fun g w' h => one_text d g w' (by rw [← hraw]; exact h)
      have hadd : ¬ (9223372036854775807 < T.size + (⟨#[d]⟩ : ByteArray).size) := by rw [show (⟨#[d]⟩ : ByteArray).size = 1 from rfl]; omega
      have hadd2 : ¬ (9223372036854775807 < T.size + 1) := by omega
      clear hd h hk ih hq hval hraw
      go_enter Tryd.func48, Tryd.ntmps48
      go_wp2_with fail
      refine wp_region_held_drew (S := fun (_ : World) => True) (by kernel_rfl) trivial (fun hH0 => ?_)
      refine wpAnyH_take (i := 0) (oi := ?oi1) (v := ?vv1) ?hi1 ?hn1 ?hf1 ?hr1 ?hq1 (Or.inl ⟨?hg1, ?hy1⟩) hH0 ?rest1
      case hi1 => (simp only [List.getElem?_toArray, List.getElem?_cons_zero]; rfl)
      case hn1 => kernel_rfl
      case hf1 => kernel_rfl
      case hr1 => kernel_rfl
      case hg1 => rfl
      case hy1 => (intro w hSw; (try dsimp only at hSw); go_simp; first | done | with_reducible rfl)
      case hq1 => exact fun _ _ _ h => h
      try dsimp only [Act.put]
      refine wpAnyH_take (i := 1) (oi := ?oi2) (v := ?vv2) ?hi2 ?hn2 ?hf2 ?hr2 ?hq2 (Or.inl ⟨?hg2, ?hy2⟩) hH0 ?rest2
      case hi2 => (simp only [List.getElem?_toArray, List.getElem?_cons_succ, List.getElem?_cons_zero]; rfl)
      case hn2 => kernel_rfl
      case hf2 => kernel_rfl
      case hr2 => kernel_rfl
      case hg2 => rfl
      case hy2 => (intro w hSw; (try dsimp only at hSw); go_simp; first | done | with_reducible rfl)
      case hq2 => exact fun _ _ _ h => h
      try dsimp only [Act.put]
      refine wpAnyH_take (i := 3) (oi := ?oi3) (v := ?vv3) ?hi3 ?hn3 ?hf3 ?hr3 ?hq3 (Or.inl ⟨?hg3, ?hy3⟩) hH0 ?rest3
      case hi3 => (simp only [List.getElem?_toArray, List.getElem?_cons_succ, List.getElem?_cons_zero]; rfl)
      case hn3 => kernel_rfl
      case hf3 => kernel_rfl
      case hr3 => kernel_rfl
      case hg3 => rfl
      case hy3 => (intro w hSw; (try dsimp only at hSw); go_simp; first | done | with_reducible rfl)
      case hq3 => exact fun _ _ _ h => h
      try dsimp only [Act.put]
      refine wpAnyH_take (i := 4) (oi := ?oi4) (v := ?vv4) ?hi4 ?hn4 ?hf4 ?hr4 ?hq4 (Or.inl ⟨?hg4, ?hy4⟩) hH0 ?rest4
      case hi4 => (simp only [List.getElem?_toArray, List.getElem?_cons_succ, List.getElem?_cons_zero]; rfl)
      case hn4 => kernel_rfl
      case hf4 => kernel_rfl
      case hr4 => kernel_rfl
      case hg4 => rfl
      case hy4 => (intro w hSw; (try dsimp only at hSw); go_simp; first | done | with_reducible rfl)
      case hq4 => exact fun _ _ _ h => h
      try dsimp only [Act.put]
      refine wpAnyH_take (i := 5) (oi := ?oi5) (v := ?vv5) ?hi5 ?hn5 ?hf5 ?hr5 ?hq5 (Or.inl ⟨?hg5, ?hy5⟩) hH0 ?rest5
      case hi5 => (simp only [List.getElem?_toArray, List.getElem?_cons_succ, List.getElem?_cons_zero]; rfl)
      case hn5 => kernel_rfl
      case hf5 => kernel_rfl
      case hr5 => kernel_rfl
      case hg5 => rfl
      case hy5 => (intro w hSw; (try dsimp only at hSw); go_simp; first | done | with_reducible rfl)
      case hq5 => exact fun _ _ _ h => h
      try dsimp only [Act.put]
      refine wpAnyH_take (i := 6) (oi := ?oi6) (v := ?vv6) ?hi6 ?hn6 ?hf6 ?hr6 ?hq6 (Or.inl ⟨?hg6, ?hy6⟩) hH0 ?rest6
      case hi6 => (simp only [List.getElem?_toArray, List.getElem?_cons_succ, List.getElem?_cons_zero]; rfl)
      case hn6 => kernel_rfl
      case hf6 => kernel_rfl
      case hr6 => kernel_rfl
      case hg6 => rfl
      case hy6 => (intro w hSw; (try dsimp only at hSw); go_simp; first | done | with_reducible rfl)
      case hq6 => exact fun _ _ _ h => h
      try dsimp only [Act.put]
      refine held_two 2 7 rfl rfl (by kernel_rfl) (fun K hK => ?_) (fun K hK => ?_)
      · go_simp
        refine (hI _).mono ?_; rintro e w3 ⟨rfl, hb3⟩
        go_wp2_with fail
        have hb3' := nx (Below.refl w.heap.size w).drew hb3
        refine hK.out (fun (_ : World) => True) _ _ (fun _ h => h) trivial ?_
        clear hK K
        try dsimp only [Act.put]
        refine held_one 7 rfl (by kernel_rfl) (fun K hK => ?_)
        go_simp
        have hH1 : (w3.alloc (.cells #[(.int .u8 (IntKind.u8.wrap (IntKind.i64.wrap (48 + (n : Int).tmod 10))))] 5 (0, 0))).cell? ⟨w3.heap.size, 0, none⟩ = some (.int .u8 (IntKind.u8.wrap (IntKind.i64.wrap (48 + (n : Int).tmod 10)))) := new1 w3 (.int .u8 (IntKind.u8.wrap (IntKind.i64.wrap (48 + (n : Int).tmod 10)))) 5 0 _ rfl
        refine hK.out (fun (w' : World) => w'.cell? ⟨w3.heap.size, 0, none⟩ = some (.int .u8 (IntKind.u8.wrap (IntKind.i64.wrap (48 + (n : Int).tmod 10))))) _ _ (fun _ _ => trivial) hH1 ?_
        clear hK K
        try dsimp only [Act.put]
        refine wpAnyH_take (i := 8) (oi := ?oi20) (v := ?vv20) ?hi20 ?hn20 ?hf20 ?hr20 ?hq20 (Or.inl ⟨?hg20, ?hy20⟩) hH1 ?rest20
        case hi20 => (simp only [List.getElem?_toArray, List.getElem?_cons_succ, List.getElem?_cons_zero]; rfl)
        case hn20 => kernel_rfl
        case hf20 => kernel_rfl
        case hr20 => kernel_rfl
        case hg20 => rfl
        case hy20 => (intro w hSw; (try dsimp only at hSw); have hcw := hcv _ _ hSw; go_simp; first | done | with_reducible rfl)
        case hq20 => exact fun _ _ _ h => h
        try dsimp only [Act.put]
        refine wpAnyH_take (i := 9) (oi := ?oi21) (v := ?vv21) ?hi21 ?hn21 ?hf21 ?hr21 ?hq21 (Or.inl ⟨?hg21, ?hy21⟩) hH1 ?rest21
        case hi21 => (simp only [List.getElem?_toArray, List.getElem?_cons_succ, List.getElem?_cons_zero]; rfl)
        case hn21 => kernel_rfl
        case hf21 => kernel_rfl
        case hr21 => kernel_rfl
        case hg21 => rfl
        case hy21 => (intro w hSw; (try dsimp only at hSw); go_simp; first | done | with_reducible rfl)
        case hq21 => exact fun _ _ _ h => h
        try dsimp only [Act.put]
        refine wpAnyH_take (i := 10) (oi := ?oi22) (v := ?vv22) ?hi22 ?hn22 ?hf22 ?hr22 ?hq22 (Or.inl ⟨?hg22, ?hy22⟩) hH1 ?rest22
        case hi22 => (simp only [List.getElem?_toArray, List.getElem?_cons_succ, List.getElem?_cons_zero]; rfl)
        case hn22 => kernel_rfl
        case hf22 => kernel_rfl
        case hr22 => kernel_rfl
        case hg22 => rfl
        case hy22 => (intro w hSw; (try dsimp only at hSw); go_simp; first | done | with_reducible rfl)
        case hq22 => exact fun _ _ _ h => h
        try dsimp only [Act.put]
        refine wpAnyH_done (by kernel_rfl) ?_ _
        simp only [List.setIfInBounds_toArray, List.set_cons_zero, List.set_cons_succ]
        go_wp2_with fail
        go_ret
        exact ⟨rfl, nxAlloc hb3' _⟩
      · go_simp
        have hH1 : (w.alloc (.cells #[(.int .u8 (IntKind.u8.wrap (IntKind.i64.wrap (48 + (n : Int).tmod 10))))] 5 (0, 0))).drew.cell? ⟨w.heap.size, 0, none⟩ = some (.int .u8 (IntKind.u8.wrap (IntKind.i64.wrap (48 + (n : Int).tmod 10)))) := new1 w (.int .u8 (IntKind.u8.wrap (IntKind.i64.wrap (48 + (n : Int).tmod 10)))) 5 0 _ rfl
        refine hK.out (fun (w' : World) => w'.cell? ⟨w.heap.size, 0, none⟩ = some (.int .u8 (IntKind.u8.wrap (IntKind.i64.wrap (48 + (n : Int).tmod 10))))) _ _ (fun _ _ => trivial) hH1 ?_
        clear hK K
        try dsimp only [Act.put]
        refine wpAnyH_take (i := 8) (oi := ?oi30) (v := ?vv30) ?hi30 ?hn30 ?hf30 ?hr30 ?hq30 (Or.inl ⟨?hg30, ?hy30⟩) hH1 ?rest30
        case hi30 => (simp only [List.getElem?_toArray, List.getElem?_cons_succ, List.getElem?_cons_zero]; rfl)
        case hn30 => kernel_rfl
        case hf30 => kernel_rfl
        case hr30 => kernel_rfl
        case hg30 => rfl
        case hy30 => (intro w hSw; (try dsimp only at hSw); have hcw := hcv _ _ hSw; go_simp; first | done | with_reducible rfl)
        case hq30 => exact fun _ _ _ h => h
        try dsimp only [Act.put]
        refine held_one 2 rfl (by kernel_rfl) (fun K hK => ?_)
        go_simp
        refine (hI _).mono ?_; rintro e w3 ⟨rfl, hb3⟩
        go_wp2_with fail
        have hH2 := keep_cell hb3 hH1
        refine hK.out (fun (w' : World) => w'.cell? ⟨w.heap.size, 0, none⟩ = some (.int .u8 (IntKind.u8.wrap (IntKind.i64.wrap (48 + (n : Int).tmod 10))))) _ _ (fun _ h => h) hH2 ?_
        clear hK K
        try dsimp only [Act.put]
        refine wpAnyH_take (i := 9) (oi := ?oi31) (v := ?vv31) ?hi31 ?hn31 ?hf31 ?hr31 ?hq31 (Or.inl ⟨?hg31, ?hy31⟩) hH2 ?rest31
        case hi31 => (simp only [List.getElem?_toArray, List.getElem?_cons_succ, List.getElem?_cons_zero]; rfl)
        case hn31 => kernel_rfl
        case hf31 => kernel_rfl
        case hr31 => kernel_rfl
        case hg31 => rfl
        case hy31 => (intro w hSw; (try dsimp only at hSw); go_simp; first | done | with_reducible rfl)
        case hq31 => exact fun _ _ _ h => h
        try dsimp only [Act.put]
        refine wpAnyH_take (i := 10) (oi := ?oi32) (v := ?vv32) ?hi32 ?hn32 ?hf32 ?hr32 ?hq32 (Or.inl ⟨?hg32, ?hy32⟩) hH2 ?rest32
        case hi32 => (simp only [List.getElem?_toArray, List.getElem?_cons_succ, List.getElem?_cons_zero]; rfl)
        case hn32 => kernel_rfl
        case hf32 => kernel_rfl
        case hr32 => kernel_rfl
        case hg32 => rfl
        case hy32 => (intro w hSw; (try dsimp only at hSw); go_simp; first | done | with_reducible rfl)
        case hq32 => exact fun _ _ _ h => h
        try dsimp only [Act.put]
        refine wpAnyH_done (by kernel_rfl) ?_ _
        simp only [List.setIfInBounds_toArray, List.set_cons_zero, List.set_cons_succ]
        go_wp2_with fail
        go_ret
        exact ⟨rfl, nx (nxAlloc (Below.refl w.heap.size w) _).drew hb3⟩
end Go.Proofs.YtdhjchibhlcchaaDoor

/-! Gt2 -/
namespace Go.Proofs.YtdhjchibhlcchaaDoor
open Go.RowKit

/-- The text of a fraction. -/
def frT (x y : Nat) : ByteArray := numT x ++ ⟨#[47]⟩ ++ numT y
theorem frT_size (x y : Nat) (h : x ≤ 9999) (k : y ≤ 9999) : (frT x y).size ≤ 9 := by
  have := numT_size x h
  have := numT_size y k
  unfold frT
  rw [ByteArray.size_append, ByteArray.size_append, show (⟨#[47]⟩ : ByteArray).size = 1 from rfl]
  omega

set_option maxRecDepth 100000 in
set_option maxHeartbeats 2000000 in
theorem mpText_any (x y : Nat) (w : World) (h : x ≤ 9999) (k : y ≤ 9999) : Calls Tryd.prog 28 #[.agg #[.int .i64 x, .int .i64 y]] w (Gives (.string (frT x y)) w) := by
  unfold frT
  have s1 := numT_size x h
  have s2 := numT_size y k
  have hn := fun w => l1Num_any x x w (Nat.le_refl _) h
  have hm := fun w => l1Num_any y y w (Nat.le_refl _) k
  have a1 : ¬ (9223372036854775807 < (numT x).size + (⟨#[47]⟩ : ByteArray).size) := by rw [show (⟨#[47]⟩ : ByteArray).size = 1 from rfl]; omega
  have a2 : ¬ (9223372036854775807 < (numT x ++ ⟨#[47]⟩).size + (numT y).size) := by rw [ByteArray.size_append, show (⟨#[47]⟩ : ByteArray).size = 1 from rfl]; omega
  have a3 : ¬ (9223372036854775807 < (numT x).size + 1) := by omega
  have a4 : ¬ (9223372036854775807 < (numT x).size + 1 + (numT y).size) := by omega
  generalize numT x = T at *
  generalize numT y = U at *
  clear h k
  go_enter Tryd.func28, Tryd.ntmps28
  go_wp2_with fail
  have hb0 : Below w.heap.size w (w.alloc (.cells #[.int .i64 x, .int .i64 y] 23 (0, 0))) := nxAlloc (Below.refl _ _) _
  have hx0 := heap_alloc_at w (.cells #[.int .i64 x, .int .i64 y] 23 (0, 0))
  generalize (w.alloc (.cells #[.int .i64 x, .int .i64 y] 23 (0, 0))) = w0 at *
  obtain ⟨hx0a, hx0b, hx0c⟩ := two_facts hx0
  obtain ⟨hx0f, hx0g⟩ := two_frozen hx0
  refine wp_region_cls (by kernel_rfl) (by kernel_rfl) ?_
  repeat (
    refine wpQuiet_step (fun K hK => ?_)
    go_simp
    first
      | (refine hK _ ?_; clear hK K)
      | (refine ⟨_, fun _ _ => rfl, hK _ ?_⟩; clear hK K)
      | (apply Exists.intro
         refine ⟨fun w' hw' => ?_, hK _ ?_⟩
         · first
             | (rw [hw'.cell hx0c hx0a]; exact ⟨rfl, rfl⟩)
             | (rw [hw'.cell hx0c hx0b]; exact ⟨rfl, rfl⟩)
             | (go_at_call 48; first | (with_reducible exact hw'.call (hn _)) | (with_reducible exact hw'.call (hm _)))
         clear hK K))
  refine wpQuiet_nil ?_
  intro w' hw'
  go_wp2_with fail
  go_ret
  exact ⟨rfl, nx hb0 hw'⟩
end Go.Proofs.YtdhjchibhlcchaaDoor

/-! ShelfItoa -/
namespace Go.Proofs
open Go.Shelf
def Tryd.laysM171_ren : Go.Shelf.Ren := ⟨fun | 171 => 53 | 243 => 72 | 246 => 84 | 283 => 91 | 284 => 92 | 285 => 93 | 286 => 94 | 129 => 102 | 317 => 101 | 318 => 103 | 319 => 104 | 320 => 105 | 337 => 108 | 338 => 109 | n => n, fun | 3 => 3 | 9 => 9 | 2 => 2 | 4 => 4 | 171 => 119 | 0 => 0 | 53 => 112 | 37 => 79 | 5 => 5 | 173 => 121 | 212 => 129 | 51 => 110 | 20 => 20 | 213 => 130 | 46 => 96 | 232 => 134 | 233 => 135 | n => n, fun | 17 => 3 | 18 => 4 | 19 => 5 | n => n⟩
theorem Tryd.laysM171 : Go.Proofs.LaysM.n171 Tryd.prog Tryd.laysM171_ren := {
  mixed := by kernel_rfl
  f129 := Tryd.func102.trans (congrArg some (by kernel_rfl))
  f171 := Tryd.func53.trans (congrArg some (by kernel_rfl))
  f243 := Tryd.func72.trans (congrArg some (by kernel_rfl))
  f246 := Tryd.func84.trans (congrArg some (by kernel_rfl))
  f283 := Tryd.func91.trans (congrArg some (by kernel_rfl))
  f284 := Tryd.func92.trans (congrArg some (by kernel_rfl))
  f285 := Tryd.func93.trans (congrArg some (by kernel_rfl))
  f286 := Tryd.func94.trans (congrArg some (by kernel_rfl))
  f317 := Tryd.func101.trans (congrArg some (by kernel_rfl))
  f318 := Tryd.func103.trans (congrArg some (by kernel_rfl))
  f319 := Tryd.func104.trans (congrArg some (by kernel_rfl))
  f320 := Tryd.func105.trans (congrArg some (by kernel_rfl))
  f337 := Tryd.func108.trans (congrArg some (by kernel_rfl))
  f338 := Tryd.func109.trans (congrArg some (by kernel_rfl))
  t0 := Tryd.underlying0
  a0 := Tryd.isAgg0
  z0 := Tryd.sizeOf0
  v0 := Tryd.zeroValue0
  t2 := Tryd.underlying2
  a2 := Tryd.isAgg2
  z2 := Tryd.sizeOf2
  v2 := Tryd.zeroValue2
  t3 := Tryd.underlying3
  a3 := Tryd.isAgg3
  z3 := Tryd.sizeOf3
  v3 := Tryd.zeroValue3
  t4 := Tryd.underlying4
  a4 := Tryd.isAgg4
  z4 := Tryd.sizeOf4
  v4 := Tryd.zeroValue4
  t5 := Tryd.underlying5
  a5 := Tryd.isAgg5
  z5 := Tryd.sizeOf5
  v5 := Tryd.zeroValue5
  t9 := Tryd.underlying9
  a9 := Tryd.isAgg9
  z9 := Tryd.sizeOf9
  v9 := Tryd.zeroValue9
  t20 := Tryd.underlying20
  a20 := Tryd.isAgg20
  z20 := Tryd.sizeOf20
  v20 := Tryd.zeroValue20
  t37 := Tryd.underlying79
  a37 := Tryd.isAgg79
  z37 := Tryd.sizeOf79
  v37 := Tryd.zeroValue79
  t46 := Tryd.underlying96
  a46 := Tryd.isAgg96
  z46 := Tryd.sizeOf96
  v46 := Tryd.zeroValue96
  t51 := Tryd.underlying110
  a51 := Tryd.isAgg110
  z51 := Tryd.sizeOf110
  v51 := Tryd.zeroValue110
  t53 := Tryd.underlying112
  a53 := Tryd.isAgg112
  z53 := Tryd.sizeOf112
  v53 := Tryd.zeroValue112
  t171 := Tryd.underlying119
  a171 := Tryd.isAgg119
  z171 := Tryd.sizeOf119
  v171 := Tryd.zeroValue119
  t173 := Tryd.underlying121
  a173 := Tryd.isAgg121
  z173 := Tryd.sizeOf121
  v173 := Tryd.zeroValue121
  t212 := Tryd.underlying129
  a212 := Tryd.isAgg129
  z212 := Tryd.sizeOf129
  v212 := Tryd.zeroValue129
  t213 := Tryd.underlying130
  a213 := Tryd.isAgg130
  z213 := Tryd.sizeOf130
  t232 := Tryd.underlying134
  a232 := Tryd.isAgg134
  z232 := Tryd.sizeOf134
  v232 := Tryd.zeroValue134
  t233 := Tryd.underlying135
  a233 := Tryd.isAgg135
  z233 := Tryd.sizeOf135
  v233 := Tryd.zeroValue135
  g17 := by kernel_rfl
  g18 := by kernel_rfl
  g19 := by kernel_rfl
  i0 := by kernel_rfl
  i2 := by kernel_rfl
  i3 := by kernel_rfl
  i4 := by kernel_rfl
  i5 := by kernel_rfl
  i9 := by kernel_rfl
  i20 := by kernel_rfl
  i37 := by kernel_rfl
  i46 := by kernel_rfl
  i51 := by kernel_rfl
  i53 := by kernel_rfl
  i171 := by kernel_rfl
  i173 := by kernel_rfl
  i212 := by kernel_rfl
  i232 := by kernel_rfl
  i233 := by kernel_rfl
  m17 := by kernel_rfl
  m18 := by kernel_rfl
  m19 := by kernel_rfl }
open Go.RowKit Go.Sort Go.Lib in
theorem Tryd.strconv_Itoa (n : Int) (h0 : -9223372036854775808 ≤ n) (h1 : n ≤ 9223372036854775807) (w : World) (htab : Lib.TabIs Tryd.prog w "internal/strconv.uint64pow10" .u64 Lib.pow10Tab) :
    Calls Tryd.prog 53 #[.int .i64 n] w fun e w' => e = .returned (.string ⟨(Lib.itoa n).toArray⟩) ∧ ∃ k os, w' = grow (w.drewN k) os := Any.strconv_Itoa Tryd.laysM171 n h0 h1 w htab
end Go.Proofs

/-! Gt3 -/
namespace Go.Proofs.YtdhjchibhlcchaaDoor
open Go.RowKit

/-- The table of powers of ten, which reads so in whatever world is left. -/
def Tab (w : World) : Prop := Lib.TabBelow Tryd.prog w.heap.size w "internal/strconv.uint64pow10" .u64 Lib.pow10Tab
theorem Tab.keep {w w' : World} (h : Tab w) (hb : Below w.heap.size w w') : Tab w' := fun w'' h2 => h w'' (nx hb h2)
theorem Tab.keepC {w w' : World} (h : Tab w) (hb : Cls w w') : Tab w' := h.keep hb
theorem Tab.of {w : World} (h : Lib.TabIs Tryd.prog w "internal/strconv.uint64pow10" .u64 Lib.pow10Tab) : Tab w := Lib.tabBelow_of_tabIs h
theorem itoa_any (n : Nat) (w : World) (hT : Tab w) (h : n ≤ 9999) : Calls Tryd.prog 53 #[.int .i64 n] w (Gives (.string (numT n)) w) := by
  refine (Tryd.strconv_Itoa (n : Int) (by omega) (by omega) w hT.here).mono ?_
  rintro e w' ⟨rfl, k, os, rfl⟩
  refine ⟨?_, below_grown_sl w.heap.size w k os (Nat.le_refl _)⟩
  have : Lib.itoa (n : Int) = Lib.decDigits n := by
    unfold Lib.itoa
    rw [if_neg (by omega), Int.toNat_natCast]
  rw [this]
  rfl

set_option maxRecDepth 100000 in
set_option maxHeartbeats 2000000 in
theorem frText_any (x y : Nat) (w : World) (hT : Tab w) (h : x ≤ 9999) (k : y ≤ 9999) : Calls Tryd.prog 31 #[.agg #[.int .i64 x, .int .i64 y]] w (Gives (.string (frT x y)) w) := by
  unfold frT
  have s1 := numT_size x h
  have s2 := numT_size y k
  have a1 : ¬ (9223372036854775807 < (numT x).size + (⟨#[47]⟩ : ByteArray).size) := by rw [show (⟨#[47]⟩ : ByteArray).size = 1 from rfl]; omega
  have a2 : ¬ (9223372036854775807 < (numT x ++ ⟨#[47]⟩).size + (numT y).size) := by rw [ByteArray.size_append, show (⟨#[47]⟩ : ByteArray).size = 1 from rfl]; omega
  have a3 : ¬ (9223372036854775807 < (numT x).size + 1) := by omega
  have a4 : ¬ (9223372036854775807 < (numT x).size + 1 + (numT y).size) := by omega
  have n1 := fun w hT => itoa_any x w hT h
  have n2 := fun w hT => itoa_any y w hT k
  generalize numT x = T at *
  generalize numT y = U at *
  clear h k
  go_enter Tryd.func31, Tryd.ntmps31
  go_wp2_with fail
  have hb0 : Below w.heap.size w (w.alloc (.cells #[.int .i64 x, .int .i64 y] 23 (0, 0))) := nxAlloc (Below.refl _ _) _
  have hx0 := heap_alloc_at w (.cells #[.int .i64 x, .int .i64 y] 23 (0, 0))
  generalize (w.alloc (.cells #[.int .i64 x, .int .i64 y] 23 (0, 0))) = w0 at *
  obtain ⟨hx0a, hx0b, hx0c⟩ := two_facts hx0
  obtain ⟨hx0f, hx0g⟩ := two_frozen hx0
  refine wp_region_cls (by kernel_rfl) (by kernel_rfl) ?_
  repeat (
    refine wpQuiet_step (fun K hK => ?_)
    go_simp
    first
      | (refine hK _ ?_; clear hK K)
      | (refine ⟨_, fun _ _ => rfl, hK _ ?_⟩; clear hK K)
      | (apply Exists.intro
         refine ⟨fun w' hw' => ?_, hK _ ?_⟩
         · first
             | (rw [hw'.cell hx0c hx0a]; exact ⟨rfl, rfl⟩)
             | (rw [hw'.cell hx0c hx0b]; exact ⟨rfl, rfl⟩)
             | (go_at_call 53; first | (with_reducible exact hw'.call (n1 _ ((hT.keep hb0).keepC hw'))) | (with_reducible exact hw'.call (n2 _ ((hT.keep hb0).keepC hw'))))
         clear hK K))
  refine wpQuiet_nil ?_
  intro w' hw'
  go_wp2_with fail
  go_ret
  exact ⟨rfl, nx hb0 hw'⟩
end Go.Proofs.YtdhjchibhlcchaaDoor

/-! Fp1 -/
namespace Go.Proofs.YtdhjchibhlcchaaDoor
open Go.RowKit

theorem info_piece : (Tryd.prog.info? 75).map (fun i => (i.zero, i.size, i.bytes)) = some (some (.agg #[.int .i64 0, .int .i64 0, .int .i64 0]), 3, 24) := by kernel_rfl
theorem three1 (a b c : Int) : ∀ u ∈ [Value.int .i64 a, Value.int .i64 b, Value.int .i64 c], u.oneCell' = true := by
  intro u hu
  simp at hu
  rcases hu with rfl | rfl | rfl <;> rfl
/-- Where the pieces of a pair begin, to what this is carried, and the slope. -/
def pcsL : List ByteArray → List ByteArray → List (Nat × Nat × Int)
  | a :: l, b :: m => (stA a, stA b, (a.size : Int) - b.size) :: pcsL l m
  | _, _ => []
def flatP : List (Nat × Nat × Int) → List Int
  | [] => []
  | x :: l => (x.1 : Int) :: (x.2.1 : Int) :: x.2.2 :: flatP l
theorem flatP_length (l : List (Nat × Nat × Int)) : (flatP l).length = l.length * 3 := by
  induction l with
  | nil => rfl
  | cons x l ih => simp [flatP, ih]; omega
theorem flatP_append (l m : List (Nat × Nat × Int)) : flatP (l ++ m) = flatP l ++ flatP m := by
  induction l with
  | nil => rfl
  | cons x l ih => simp [flatP, ih]
theorem flatP_get (l : List (Nat × Nat × Int)) : ∀ k, k < l.length → (flatP l).getD (k * 3) 0 = ((l.getD k (0, 0, 0)).1 : Int) ∧ (flatP l).getD (k * 3 + 1) 0 = ((l.getD k (0, 0, 0)).2.1 : Int) ∧ (flatP l).getD (k * 3 + 2) 0 = (l.getD k (0, 0, 0)).2.2 := by
  induction l with
  | nil => intro k hk; simp at hk
  | cons x l ih =>
    intro k hk
    match k with
    | 0 => exact ⟨rfl, rfl, rfl⟩
    | k + 1 =>
      have := ih k (by simpa using hk)
      rw [show (k + 1) * 3 = k * 3 + 3 by omega]
      exact this
theorem pcsL_length : ∀ (l m : List ByteArray), l.length = m.length → (pcsL l m).length = l.length := by
  intro l
  induction l with
  | nil => intro m h; cases m <;> rfl
  | cons a l ih => intro m h; match m, h with
    | b :: m, h => simp [pcsL, ih m (by simpa using h)]
theorem pcsL_get : ∀ (l m : List ByteArray), l.length = m.length → ∀ k, k < l.length → (pcsL l m).getD k (0, 0, 0) = (stA (l.getD k ⟨#[]⟩), stA (m.getD k ⟨#[]⟩), ((l.getD k ⟨#[]⟩).size : Int) - (m.getD k ⟨#[]⟩).size) := by
  intro l
  induction l with
  | nil => intro m h k hk; simp at hk
  | cons a l ih => intro m h k hk; match m, h with
    | b :: m, h =>
      match k with
      | 0 => rfl
      | k + 1 => exact ih m (by simpa using h) k (by simpa using hk)
def pcs (p : Pr) : List (Nat × Nat × Int) := pcsL (p.1.addrs ⟨#[]⟩) (p.2.addrs ⟨#[]⟩)
/-- v is a slice of pieces that the call has made. -/
def OwnP (base : Nat) (w : World) (v : Value) (xs : List (Nat × Nat × Int)) : Prop := OwnW 75 3 base w v xs.length (flatP xs)
theorem OwnP.keep {base : Nat} {w w' : World} {v : Value} {xs : List (Nat × Nat × Int)} (h : OwnP base w v xs) (hb : Below w.heap.size w w') : OwnP base w' v xs := OwnW.keep h hb
theorem OwnP.mono {base base' : Nat} {w : World} {v : Value} {xs : List (Nat × Nat × Int)} (h : OwnP base w v xs) (hb : base' ≤ base) : OwnP base' w v xs := OwnW.mono h hb
theorem OwnP.cells {base : Nat} {w : World} {v : Value} {xs : List (Nat × Nat × Int)} (h : OwnP base w v xs) : CellsW 3 base w v xs.length (flatP xs) := OwnW.cells h
theorem OwnP.snoc {base : Nat} {w : World} {v : Value} {xs : List (Nat × Nat × Int)} {a b : Nat} {c : Int} (h : w.ownsRow base 75 3 v (xs.length + 1) ((flatP xs).map (Value.int .i64) ++ [Value.int .i64 a, Value.int .i64 b, Value.int .i64 c])) : OwnP base w v (xs ++ [(a, b, c)]) := by
  unfold OwnP OwnW
  rw [List.length_append, flatP_append, List.map_append]
  exact h
def GivesP (xs : List (Nat × Nat × Int)) (w : World) (e : Ending) (w' : World) : Prop :=
  ∃ v, OwnP w.heap.size w' v xs ∧ Below w.heap.size w w' ∧ e = .returned v

theorem size_of_alloc (w : World) (o : Obj) : (w.alloc o).heap.size = w.heap.size + 1 := by simp
set_option maxRecDepth 100000 in
set_option maxHeartbeats 4000000 in
theorem leafPieces_any (p : Pr) (w : World) (h1 : p.1.carets ≤ 8) (h2 : p.2.carets ≤ 8) (he : p.1.carets = p.2.carets) :
    Calls Tryd.prog 71 #[.agg #[.string p.1.str, .string p.2.str]] w (GivesP (pcs p) w) := by
  obtain ⟨i0, hi, hz0, hz1, hz2⟩ := info_parts info_piece
  have T1 := fun w => treeOf_any p.1 w (by omega)
  have T2 := fun w => treeOf_any p.2 w (by omega)
  have A1 := fun b w h => addressesFrom_any p.1 b ⟨#[]⟩ w h (by omega) (by show 0 + p.1.carets ≤ 1000; omega)
  have A2 := fun b w h => addressesFrom_any p.2 b ⟨#[]⟩ w h (by omega) (by show 0 + p.2.carets ≤ 1000; omega)
  have l1 := addrs_length p.1 ⟨#[]⟩
  have l2 := addrs_length p.2 ⟨#[]⟩
  have o1 := addrs_ok p.1 h1
  have o2 := addrs_ok p.2 h2
  unfold pcs
  generalize p.1.addrs ⟨#[]⟩ = xs at *
  generalize p.2.addrs ⟨#[]⟩ = ys at *
  obtain ⟨n, hn⟩ : ∃ n, n = xs.length := ⟨_, rfl⟩
  have hny : ys.length = n := by omega
  have hn9 : n ≤ 9 := by omega
  have hn0 : 0 < n := by omega
  have hxy : xs.length = ys.length := by omega
  have pl := pcsL_length xs ys hxy
  have pg := pcsL_get xs ys hxy
  have hO : Hid (∀ k, k < n → okAd (xs.getD k ⟨#[]⟩) ∧ okAd (ys.getD k ⟨#[]⟩)) := by
    intro k hk
    have hk1 : k < xs.length := by omega
    have hk2 : k < ys.length := by omega
    exact ⟨o1 _ (by simp [hk1]), o2 _ (by simp [hk2])⟩
  have A1' : ∀ b w, NodeAt w p.1 b → Calls Tryd.prog 24 #[.pointer (some ⟨b, 0, none⟩), .string ⟨#[]⟩] w fun e w' => ∃ g cap : Nat, OwnS w.heap.size w' (.slice (some ⟨g, 0, none⟩) n cap) xs ∧ Below w.heap.size w w' ∧ e = .returned (.slice (some ⟨g, 0, none⟩) n cap) := by
    intro b w h
    have := A1 b w h
    unfold GivesTexts at this
    rw [← hn] at this
    exact this
  have A2' : ∀ b w, NodeAt w p.2 b → Calls Tryd.prog 24 #[.pointer (some ⟨b, 0, none⟩), .string ⟨#[]⟩] w fun e w' => ∃ g cap : Nat, OwnS w.heap.size w' (.slice (some ⟨g, 0, none⟩) n cap) ys ∧ Below w.heap.size w w' ∧ e = .returned (.slice (some ⟨g, 0, none⟩) n cap) := by
    intro b w h
    have := A2 b w h
    unfold GivesTexts at this
    rw [hny] at this
    exact this
  clear A1 A2
  rw [← hn] at pl pg
  have hX := hn.symm
  clear hn
  generalize pcsL xs ys = ps at *
  have PG := Lib.hid pg
  have PL := Lib.hid pl
  have HX := Lib.hid hX
  have HY := Lib.hid hny
  clear pg pl o1 o2 hxy l1 l2 hX hny
  go_enter Tryd.func71, Tryd.ntmps71
  go_wp2_with fail
  have hb0 : Below w.heap.size w (w.alloc (.cells #[.string p.1.str, .string p.2.str] 33 (0, 0))) := nxAlloc (Below.refl _ _) _
  have hx0 := heap_alloc_at w (.cells #[.string p.1.str, .string p.2.str] 33 (0, 0))
  generalize (w.alloc (.cells #[.string p.1.str, .string p.2.str] 33 (0, 0))) = w0 at *
  obtain ⟨hx0a, hx0b, hx0c⟩ := two_facts hx0
  obtain ⟨hx0f, hx0g⟩ := two_frozen hx0
  have hz0' := Below.refl w0.heap.size w0
  go_region_held3 (fun w' => w'.cell? ⟨w.heap.size, 0, none⟩ = some (.string p.1.str) ∧ w'.cell? ⟨w.heap.size, 1, none⟩ = some (.string p.2.str))
    (first
      | exact ⟨hx0a, hx0b⟩
      | exact ⟨B1, B2⟩
      | exact ⟨C1, C2⟩
      | exact ⟨D1, D2⟩
      | exact ⟨E1, E2⟩)
    (first
      | (go_at_call 23; (with_reducible refine (T1 _).mono ?_); rintro e w1 ⟨b1, hn1, hb1, rfl⟩; have hb1' := nx hz0'.drew hb1; have B1 := keep_cell hb1' hx0a; have B2 := keep_cell hb1' hx0b)
      | (go_at_call_of 24 (some (⟨b1, 0, none⟩ : Addr)); refine (A1' b1 _ ?_).mono ?_; exact hn1; rintro e w2 ⟨g1, cap1, own1, hb2, rfl⟩; have hb2' := nx hb1' hb2; have C1 := keep_cell hb2' hx0a; have C2 := keep_cell hb2' hx0b)
      | (go_at_call 23; (with_reducible refine (T2 _).mono ?_); rintro e w3 ⟨b2, hn2, hb3, rfl⟩; have hb3' := nx hb2' hb3; have D1 := keep_cell hb3' hx0a; have D2 := keep_cell hb3' hx0b)
      | (go_at_call_of 24 (some (⟨b2, 0, none⟩ : Addr)); refine (A2' b2 _ ?_).mono ?_; exact hn2; rintro e w4 ⟨g2, cap2, own2, hb4, rfl⟩; have hb4' := nx hb3' hb4; have E1 := keep_cell hb4' hx0a; have E2 := keep_cell hb4' hx0b))
  have hbw4 := nx hb0 hb4'
  have own1' := own1.keep (nx hb3 hb4)
  clear hx0 hx0a hx0b hx0c hx0f hx0g B1 B2 C1 C2 D1 D2 E1 E2 hb0 hb1 hb2 hb3 hb4 hb1' hb2' hb3' hb4' hn1 hn2 own1 T1 T2 A1' A2' hz0'
  rcases own1'.cells with ⟨h0, _⟩ | ⟨g1', cap1', hv1, _, hg1, hc1, hc2, hcell1, _⟩
  · simp at h0
  rcases own2.cells with ⟨h0, _⟩ | ⟨g2', cap2', hv2, _, hg2, hc3, hc4, hcell2, _⟩
  · simp at h0
  simp only [Value.slice.injEq, Option.some.injEq, Addr.mk.injEq, and_true] at hv1 hv2
  obtain ⟨rfl, e1, rfl⟩ := hv1
  obtain ⟨rfl, e2, rfl⟩ := hv2
  clear e1 e2
  have HC1 := Lib.hid hcell1
  have HC2 := Lib.hid hcell2
  unfold maxLen at hc2 hc4
  clear hcell1 hcell2 own1' own2
  go_wp2_with fail
  go_loopw [5, 17] (fun v i wr => ∃ (k : Nat) (v0 : Value), v0 = v ∧ k ≤ n ∧ i = .int .i64 k ∧ OwnP w4.heap.size wr v0 (ps.take k) ∧ Below w4.heap.size w4 wr ∧ Below w.heap.size w wr) (fun _ i _ => n - (intOf i).toNat)
  case atStart => exact ⟨0, _, rfl, Nat.zero_le _, rfl, OwnW.nil _ _ _ _, Below.refl _ _, hbw4⟩
  case round =>
    obtain ⟨k, v, rfl, hk, rfl, hown, hbw, hbww⟩ := hrel
    by_cases hlt : k < n
    · have hlt' : (k : Int) < (n : Int) := by omega
      have hX := HX.out
      have hY := HY.out
      have d1 := HC1.out k (by omega)
      have d2 := HC2.out k (by omega)
      obtain ⟨ok1, ok2⟩ := hO.out k hlt
      have hpl := PL.out
      have hnext : ps.take (k + 1) = ps.take k ++ [ps.getD k (0, 0, 0)] := by
        have : k < ps.length := by omega
        rw [List.take_succ_eq_append_getElem this]; simp [this]
      have hlen : (ps.take k).length = k := by simp; omega
      rw [PG.out k (by omega)] at hnext
      generalize ps.take k = qs at hown hlen hnext
      generalize xs.getD k ⟨#[]⟩ = a at *
      generalize ys.getD k ⟨#[]⟩ = b at *
      have hS1 := fun w => startOf_any a w ok1.1 ok1.2
      have hS2 := fun w => startOf_any b w ok2.1 ok2.2
      have sa := ok1.1
      have sb := ok2.1
      have hi3 : IntKind.i64.wrap ((a.size : Int) - (b.size : Int)) = (a.size : Int) - (b.size : Int) := by rw [IntKind.wrap_i64] <;> omega
      generalize hx : stA a = x at *
      generalize hy : stA b = y at *
      have HN := Lib.hid hnext
      have hq9 : qs.length ≤ 9 := by omega
      clear hnext hX hY ok1 ok2 hpl hx hy hlen
      have c1 := (hbw.cell (p := ⟨g1, k, none⟩) hg1).trans d1
      have c2 := (hbw.cell (p := ⟨g2, k, none⟩) hg2).trans d2
      have hz := Below.refl wr.heap.size wr
      have hsw := hbw4.size
      have hm9 : qs.length + 1 ≤ maxLen := by unfold maxLen; omega
      have hb9 : (qs.length + 1) * 24 ≤ 140737488355328 := by omega
      go_wp2_with fail
      go_region_held3 (fun w' => w'.cell? ⟨g1, k, none⟩ = some (.string a) ∧ w'.cell? ⟨g2, k, none⟩ = some (.string b))
        (first
          | exact ⟨c1, c2⟩
          | exact ⟨B1, B2⟩
          | exact ⟨C1, C2⟩
          | exact ⟨D1 _, D2 _⟩
          | exact ⟨E1, E2⟩)
        (first
          | (go_at_call 19; (with_reducible refine (hS1 _).mono ?_); rintro e w5 ⟨rfl, hb5⟩; have hb5' := nx hz.drew hb5; have B1 := keep_cell hb5' c1; have B2 := keep_cell hb5' c2)
          | (go_at_call 19; (with_reducible refine (hS2 _).mono ?_); rintro e w6 ⟨rfl, hb6⟩; have hb6' := nx hb5' hb6; have C1 := keep_cell hb6' c1; have C2 := keep_cell hb6' c2; have D1 := fun o => keep_cell (nxAlloc hb6' o) c1; have D2 := fun o => keep_cell (nxAlloc hb6' o) c2; have hown6 := hown.keep hb6'; have hb46 := nx hbw hb6'; have hbw6 := nx hbww hb6'; have hnews := newsK w6 #[.int .i64 x, .int .i64 y, .int .i64 ((a.size : Int) - (b.size : Int))] 75; have hown7 := World.ownsRow.alloc hown6 (.cells #[.int .i64 x, .int .i64 y, .int .i64 ((a.size : Int) - (b.size : Int))] 75 (0, 0)); have hs46 := hb46.size; have hbs := Nat.le_trans hs46 (Nat.le_trans (Nat.le_succ _) (Nat.le_of_eq (size_of_alloc w6 (.cells #[.int .i64 x, .int .i64 y, .int .i64 ((a.size : Int) - (b.size : Int))] 75 (0, 0))).symm)); have hsz7 := size_of_alloc w6 (.cells #[.int .i64 x, .int .i64 y, .int .i64 ((a.size : Int) - (b.size : Int))] 75 (0, 0)))
          | (refine step_append_lies _ (by rfl) _ _ _ (by rfl) w4.heap.size 75 i0 _ 3 24 Tryd.underlying70 hi hz0 hz1 hz2 rfl (by omega) v qs.length ((flatP qs).map (Value.int .i64)) (by rfl) hown7 ⟨w6.heap.size, 0, none⟩ 1 1 [.int .i64 x, .int .i64 y, .int .i64 ((a.size : Int) - (b.size : Int))] (by rfl) (by rfl) hnews (three1 _ _ _) (by omega) hm9 hb9 hbs (w6.heap.size + 1) hsz7 ?_; intro gg cap9 w9 hown' hgrow hat hlt9; have hbw9 := (nxAlloc hb46 _).grown hgrow hbs (fun k hk => ownsRow_ge hown7 k hk); have E1 := (hbw9.cell (p := ⟨g1, k, none⟩) hg1).trans d1; have E2 := (hbw9.cell (p := ⟨g2, k, none⟩) hg2).trans d2))
      have hbw9w := (nxAlloc hbw6 _).grown hgrow (Nat.le_trans hsw hbs) (fun k hk => Nat.le_trans hsw (ownsRow_ge hown7 k hk))
      have hown1 := OwnP.snoc hown'
      go_wp2_with fail
      go_roundw
      case rel =>
        rw [← HN.out] at hown1
        first
          | exact ⟨k + 1, _, rfl, by omega, by go_num, hown1, hbw9, hbw9w⟩
          | ((repeat apply Exists.intro); exact ⟨⟨k + 1, _, rfl, by omega, by go_num, hown1, hbw9, hbw9w⟩, rfl⟩)
      case measure => simp [intOf]; omega
    · obtain rfl : k = n := by omega
      have hpl := PL.out
      rw [List.take_of_length_le (by omega)] at hown
      go_wp2_with fail
      go_ret
      exact ⟨_, hown.mono hbw4.size, hbww, rfl⟩
end Go.Proofs.YtdhjchibhlcchaaDoor

/-! SpecMir -/
namespace Go.Proofs.YtdhjchibhlcchaaDoor
open Go.RowKit

end Go.Proofs.YtdhjchibhlcchaaDoor

/-! Ans -/
namespace Go.Proofs.YtdhjchibhlcchaaDoor
open Go.RowKit

def trS : Option Tr → ByteArray
  | some t => t.str
  | none => ⟨#[]⟩
def trB : Option Tr → Bool
  | some _ => true
  | none => false
/-- An answer of a text and a bool. -/
def ansV (o : Option Tr) : Value := .tuple #[.string (trS o), .bool (trB o)]
/-- A tree, if it has no more carets than allowed. -/
def lim (t : Tr) : Option Tr := if t.carets ≤ 8 then some t else none

theorem trIs_yes (t : Tr) (w : World) (h : t.carets ≤ 8) : Calls Tryd.prog 37 #[.string t.str] w fun e w' => e = .returned (.bool true) ∧ w = w' := by
  have := trIs_any t.str w (by have := t.str_size; omega)
  rwa [isTreeB_str t h] at this
theorem trIs_no (s : ByteArray) (w : World) (hs : s.size ≤ 9223372036854775806) (h : treeOf s = none) : Calls Tryd.prog 37 #[.string s] w fun e w' => e = .returned (.bool false) ∧ w = w' := by
  have := trIs_any s w hs
  rwa [isTreeB_eq, h] at this
theorem carets_str (t : Tr) (w : World) (h : t.carets ≤ 1000) : Calls Tryd.prog 38 #[.string t.str] w fun e w' => e = .returned (.int .i64 t.carets) ∧ w = w' := by
  have := carets_any t.str w (by have := t.str_size; omega)
  rwa [cnt_str] at this

def TreesOk (t u : Tr) (w : World) (e : Ending) (w' : World) : Prop :=
  ∃ b c : Nat, NodeAt w' t b ∧ NodeAt w' u c ∧ Below w.heap.size w w' ∧ e = .returned (.tuple #[.pointer (some ⟨b, 0, none⟩), .pointer (some ⟨c, 0, none⟩), .bool true])
def TreesNo (w : World) (e : Ending) (w' : World) : Prop :=
  Below w.heap.size w w' ∧ e = .returned (.tuple #[.pointer none, .pointer none, .bool false])

end Go.Proofs.YtdhjchibhlcchaaDoor

/-! Count -/
namespace Go.Proofs.YtdhjchibhlcchaaDoor
open Go.RowKit

set_option maxHeartbeats 1000000 in
set_option maxRecDepth 100000 in
theorem count_any (s : ByteArray) (w : World) :
    Calls Tryd.prog 68 #[.string s, .string ⟨#[40]⟩] w fun e w' => e = .returned (.int .i64 (Lib.countByte s.data.toList 40 : Nat)) ∧ w = w' := by
  go_enter Tryd.func68, Tryd.ntmps68
  go_wp2
  rw [run_callFunc_extern Tryd.func82 (by kernel_rfl) (by kernel_rfl) (by kernel_rfl) (e := Extern.BytealgCount.count) (by kernel_rfl), Lib.run_countString]
  simp only [Result.andThen]
  rw [Oper.upon_value]
  go_wp2
  go_ret
  exact ⟨rfl, rfl⟩

theorem countCarets_any (t : Tr) (w : World) (_h : t.carets ≤ 1000) :
    Calls Tryd.prog 42 #[.string t.str] w (Gives (.int .i64 t.carets) w) := by
  have e : Hid (Lib.countByte t.str.data.toList 40 = t.carets) := by rw [show Hid _ = _ from rfl, Tr.str_list, ← text_count]; rfl
  go_enter Tryd.func42, Tryd.ntmps42
  go_wp2_with fail
  refine (count_any t.str _).mono ?_; rintro _ w1 ⟨rfl, rfl⟩
  rw [e.out]
  go_wp2_with fail
  go_ret
  exact ⟨rfl, Below.refl _ _⟩
end Go.Proofs.YtdhjchibhlcchaaDoor

/-! Pair -/
namespace Go.Proofs.YtdhjchibhlcchaaDoor
open Go.RowKit

/-- A pair of texts as a value. -/
abbrev pv (a b : ByteArray) : Value := .agg #[.string a, .string b]

theorem toPair_any (a b : ByteArray) (w : World) :
    Calls Tryd.prog 11 #[.agg #[.string a, .string b]] w (Gives (.agg #[.string a, .string b]) w) := by
  go_enter Tryd.func11, Tryd.ntmps11
  go_wp2
  refine bodyPost_ret (v := .agg #[.string a, .string b]) (by simp [results, Tryd.results11, go_sem]) rfl ⟨rfl, ?_⟩
  exact nxAlloc (nxAlloc (nxAlloc (Below.refl _ _) _) _) _

theorem szPair_any (a b : ByteArray) (w : World) (ha : a.size ≤ 9223372036854775807) (hb : b.size ≤ 9223372036854775807) (n : Int) (h0 : 0 ≤ n) (h1 : n ≤ 1048576) :
    Calls Tryd.prog 9 #[.agg #[.string a, .string b], .int .i64 n] w (Gives (.int .i64 (if (a.size : Int) + b.size ≤ n then n - a.size - b.size else -1)) w) := by
  by_cases h2 : n - a.size < 0
  · rw [if_neg (by omega)]
    go_enter Tryd.func9, Tryd.ntmps9
    go_wp2
    go_ret
    exact ⟨rfl, (Below.refl _ _).alloc (Nat.le_refl _) _⟩
  · by_cases h3 : n - a.size - b.size < 0
    · rw [if_neg (by omega)]
      go_enter Tryd.func9, Tryd.ntmps9
      go_wp2
      go_ret
      exact ⟨rfl, (Below.refl _ _).alloc (Nat.le_refl _) _⟩
    · rw [if_pos (by omega)]
      go_enter Tryd.func9, Tryd.ntmps9
      go_wp2
      go_ret
      exact ⟨rfl, (Below.refl _ _).alloc (Nat.le_refl _) _⟩

theorem pairOf_isSome (a b : ByteArray) (t u : Tr) (ha : treeOf a = some t) (hb : treeOf b = some u) : (pairOf a b).isSome = ((t.carets : Int) == (u.carets : Int)) := by
  unfold pairOf
  rw [ha, hb, Bool.eq_iff_iff, beq_iff_eq]
  by_cases h : t.carets = u.carets
  · simp [h]
  · simp only [h, if_false]; simp; omega

set_option maxRecDepth 100000 in
set_option maxHeartbeats 1000000 in
theorem prGood_any (a b : ByteArray) (w : World) (ha : a.size ≤ 9223372036854775806) (hb : b.size ≤ 9223372036854775806) :
    Calls Tryd.prog 20 #[.agg #[.string a, .string b]] w (Gives (.bool (pairOf a b).isSome) w) := by
  cases h : treeOf a with
  | none =>
    have e : (pairOf a b).isSome = false := by unfold pairOf; rw [h]; rfl
    rw [e]
    have T := fun w => trIs_no a w ha h
    clear h e
    go_enter Tryd.func20, Tryd.ntmps20
    go_wp2_with fail
    go_quiet ((go_at_call 37; with_reducible exact quiet_eq (T _)))
    go_wp2_with fail
    go_ret
    exact ⟨rfl, drewB (nxAlloc (Below.refl _ _) _) _⟩
  | some t =>
    cases k : treeOf b with
    | none =>
      have e : (pairOf a b).isSome = false := by unfold pairOf; rw [h, k]; rfl
      rw [e]
      obtain ⟨rfl, hc⟩ := treeOf_some h
      have T := fun w => trIs_yes t w hc
      have U := fun w => trIs_no b w hb k
      clear h k e
      go_enter Tryd.func20, Tryd.ntmps20
      go_wp2_with fail
      go_quiet ((go_at_call 37; first | (with_reducible exact quiet_eq (T _)) | (with_reducible exact quiet_eq (U _))))
      go_wp2_with fail
      go_ret
      exact ⟨rfl, drewB (nxAlloc (Below.refl _ _) _) _⟩
    | some u =>
      rw [pairOf_isSome a b t u h k]
      obtain ⟨rfl, hc⟩ := treeOf_some h
      obtain ⟨rfl, hd⟩ := treeOf_some k
      have T := fun w => trIs_yes t w hc
      have U := fun w => trIs_yes u w hd
      have C := fun w => carets_str t w (by omega)
      have D := fun w => carets_str u w (by omega)
      clear h k
      go_enter Tryd.func20, Tryd.ntmps20
      go_wp2_with fail
      go_quiet ((first | (go_at_call 37; first | (with_reducible exact quiet_eq (T _)) | (with_reducible exact quiet_eq (U _))) | (go_at_call 38; first | (with_reducible exact quiet_eq (C _)) | (with_reducible exact quiet_eq (D _)))))
      go_wp2_with fail
      go_ret
      exact ⟨rfl, drewB (nxAlloc (Below.refl _ _) _) _⟩
end Go.Proofs.YtdhjchibhlcchaaDoor

/-! IsPair -/
namespace Go.Proofs.YtdhjchibhlcchaaDoor
open Go.RowKit

theorem isTree_yes' (t : Tr) (w : World) (h : t.carets ≤ 8) : Calls Tryd.prog 41 #[.string t.str] w (Gives (.bool true) w) := (implIsTree_yes t w h).mono fun _ _ ⟨h1, h2⟩ => ⟨h2, h1⟩
theorem isTree_no' (s : ByteArray) (w : World) (hs : s.size ≤ 9223372036854775806) (h : treeOf s = none) : Calls Tryd.prog 41 #[.string s] w (Gives (.bool false) w) := (implIsTree_no s w hs h).mono fun _ _ ⟨h1, h2⟩ => ⟨h2, h1⟩

set_option maxRecDepth 100000 in
set_option maxHeartbeats 2000000 in
theorem isPair_any (a b : ByteArray) (w : World) (ha : a.size ≤ 9223372036854775806) (hb : b.size ≤ 9223372036854775806) :
    Calls Tryd.prog 22 #[.agg #[.string a, .string b]] w (Gives (.bool (pairOf a b).isSome) w) := by
  cases h : treeOf a with
  | none =>
    have e : (pairOf a b).isSome = false := by unfold pairOf; rw [h]; rfl
    rw [e]
    have T := fun w => isTree_no' a w ha h
    clear h e
    go_enter Tryd.func22, Tryd.ntmps22
    go_wp2_with fail
    have hb0 : Below w.heap.size w (w.alloc (.cells #[.string a, .string b] 33 (0, 0))) := nxAlloc (Below.refl _ _) _
    have hc := two_cells (heap_alloc_at w (.cells #[.string a, .string b] 33 (0, 0)))
    have hs : w.heap.size < (w.alloc (.cells #[.string a, .string b] 33 (0, 0))).heap.size := by simp
    generalize w.alloc (.cells #[.string a, .string b] 33 (0, 0)) = w0 at *
    refine wp_region_cls (by kernel_rfl) (by kernel_rfl) ?_
    repeat (
      refine wpQuiet_step (fun K hK => ?_)
      go_simp
      first
        | (refine hK _ ?_; clear hK K)
        | (refine ⟨_, fun _ _ => rfl, hK _ ?_⟩; clear hK K)
        | (apply Exists.intro
           refine ⟨fun w' hw' => ?_, hK _ ?_⟩
           · first
               | (rw [hw'.cell hs hc.1]; exact ⟨rfl, rfl⟩)
               | (rw [hw'.cell hs hc.2]; exact ⟨rfl, rfl⟩)
               | (go_at_call 41; exact hw'.call (T _))
           clear hK K))
    refine wpQuiet_nil ?_
    intro w' hw'
    go_wp2_with fail
    go_ret
    exact ⟨rfl, nx hb0 hw'⟩
  | some t =>
    cases k : treeOf b with
    | none =>
      have e : (pairOf a b).isSome = false := by unfold pairOf; rw [h, k]; rfl
      rw [e]
      obtain ⟨rfl, hc⟩ := treeOf_some h
      have T := fun w => isTree_yes' t w hc
      have U := fun w => isTree_no' b w hb k
      clear h k e hc
      go_enter Tryd.func22, Tryd.ntmps22
      go_wp2_with fail
      have hb0 : Below w.heap.size w (w.alloc (.cells #[.string t.str, .string b] 33 (0, 0))) := nxAlloc (Below.refl _ _) _
      have hc := two_cells (heap_alloc_at w (.cells #[.string t.str, .string b] 33 (0, 0)))
      have hs : w.heap.size < (w.alloc (.cells #[.string t.str, .string b] 33 (0, 0))).heap.size := by simp
      generalize w.alloc (.cells #[.string t.str, .string b] 33 (0, 0)) = w0 at *
      refine wp_region_cls (by kernel_rfl) (by kernel_rfl) ?_
      repeat (
        refine wpQuiet_step (fun K hK => ?_)
        go_simp
        first
          | (refine hK _ ?_; clear hK K)
          | (refine ⟨_, fun _ _ => rfl, hK _ ?_⟩; clear hK K)
          | (apply Exists.intro
             refine ⟨fun w' hw' => ?_, hK _ ?_⟩
             · first
                 | (rw [hw'.cell hs hc.1]; exact ⟨rfl, rfl⟩)
                 | (rw [hw'.cell hs hc.2]; exact ⟨rfl, rfl⟩)
                 | (go_at_call 41; first | (with_reducible exact hw'.call (T _)) | (with_reducible exact hw'.call (U _)))
             clear hK K))
      refine wpQuiet_nil ?_
      intro w' hw'
      go_wp2_with fail
      go_ret
      exact ⟨rfl, nx hb0 hw'⟩
    | some u =>
      rw [pairOf_isSome a b t u h k]
      obtain ⟨rfl, hc⟩ := treeOf_some h
      obtain ⟨rfl, hd⟩ := treeOf_some k
      have T := fun w => isTree_yes' t w hc
      have U := fun w => isTree_yes' u w hd
      have C := fun w => countCarets_any t w (by omega)
      have D := fun w => countCarets_any u w (by omega)
      clear h k hc hd
      go_enter Tryd.func22, Tryd.ntmps22
      go_wp2_with fail
      have hb0 : Below w.heap.size w (w.alloc (.cells #[.string t.str, .string u.str] 33 (0, 0))) := nxAlloc (Below.refl _ _) _
      have hc := two_cells (heap_alloc_at w (.cells #[.string t.str, .string u.str] 33 (0, 0)))
      have hs : w.heap.size < (w.alloc (.cells #[.string t.str, .string u.str] 33 (0, 0))).heap.size := by simp
      generalize w.alloc (.cells #[.string t.str, .string u.str] 33 (0, 0)) = w0 at *
      refine wp_region_cls (by kernel_rfl) (by kernel_rfl) ?_
      repeat (
        refine wpQuiet_step (fun K hK => ?_)
        go_simp
        first
          | (refine hK _ ?_; clear hK K)
          | (refine ⟨_, fun _ _ => rfl, hK _ ?_⟩; clear hK K)
          | (apply Exists.intro
             refine ⟨fun w' hw' => ?_, hK _ ?_⟩
             · first
                 | (rw [hw'.cell hs hc.1]; exact ⟨rfl, rfl⟩)
                 | (rw [hw'.cell hs hc.2]; exact ⟨rfl, rfl⟩)
                 | (go_at_call 41; first | (with_reducible exact hw'.call (T _)) | (with_reducible exact hw'.call (U _)))
                 | (go_at_call 42; first | (with_reducible exact hw'.call (C _)) | (with_reducible exact hw'.call (D _)))
             clear hK K))
      refine wpQuiet_nil ?_
      intro w' hw'
      go_wp2_with fail
      go_ret
      exact ⟨rfl, nx hb0 hw'⟩
end Go.Proofs.YtdhjchibhlcchaaDoor

/-! Ft4 -/
namespace Go.Proofs.YtdhjchibhlcchaaDoor
open Go.RowKit

theorem less_steps {n d m e : Nat} (h : isFr n d = true) (k : isFr m e = true) : n * e < m * d ↔ stepsOf n d < stepsOf m e := by
  have h1 := steps_cross h
  have k1 := steps_cross k
  have hd : 0 < d := by have := isP2_bounds (isFr_iff.1 h).1; omega
  have he : 0 < e := by have := isP2_bounds (isFr_iff.1 k).1; omega
  obtain ⟨W, hW⟩ : ∃ W, W = 1048576 := ⟨_, rfl⟩
  have hW0 : 0 < W := by omega
  rw [← hW] at h1 k1
  generalize stepsOf n d = s at *
  generalize stepsOf m e = t at *
  have a1 : n * e * W = s * (d * e) := by
    calc n * e * W = (n * W) * e := by ac_rfl
      _ = s * (d * e) := by rw [h1]; ac_rfl
  have a2 : m * d * W = t * (d * e) := by
    calc m * d * W = (m * W) * d := by ac_rfl
      _ = t * (d * e) := by rw [k1]; ac_rfl
  rw [← Nat.mul_lt_mul_right hW0, a1, a2]
  exact Nat.mul_lt_mul_right (Nat.mul_pos hd he)
theorem frOf_pos (s : Nat) : 0 < (frOf s).2 := short_pos (by omega)
theorem frOf_cross (s : Nat) : (frOf s).1 * 1048576 = s * (frOf s).2 := by
  obtain ⟨W, hW⟩ : ∃ W, W = 1048576 := ⟨_, rfl⟩
  have := short_steps (W := W) (n := s) (d := W) (by omega) ⟨1, by omega⟩
  rw [Nat.div_self (by omega), Nat.mul_one] at this
  unfold frOf
  rw [← hW]
  exact this
theorem steps_frOf {s : Nat} (h : s ≤ 1048576) (h2 : s % 1024 = 0) : stepsOf (frOf s).1 (frOf s).2 = s := by
  have h1 := steps_cross (frOf_thousand h h2)
  have h3 := frOf_cross s
  rw [h3] at h1
  exact (Nat.eq_of_mul_eq_mul_right (frOf_pos s) h1).symm

end Go.Proofs.YtdhjchibhlcchaaDoor

/-! WSlopesOf -/
namespace Go.Proofs.YtdhjchibhlcchaaDoor
open Go.RowKit

theorem slopesL_pcs : ∀ (l m : List ByteArray), (pcsL l m).map (fun x => x.2.2) = slopesL l m := by
  intro l
  induction l with
  | nil => intro m; cases m <;> rfl
  | cons a l ih => intro m; cases m with
    | nil => rfl
    | cons b m => simp [pcsL, slopesL, ih m]
theorem slopes_pcs (p : Pr) : (pcs p).map (fun x => x.2.2) = slopes p := slopesL_pcs _ _
def SlopesOf_o (a b : ByteArray) : Option (List Int) := (pairOf a b).bind fun p => some (slopes p)
theorem SlopesOf_len (a b : ByteArray) : ((SlopesOf_o a b).getD []).length ≤ 1000000000 := by
  unfold SlopesOf_o
  cases h : pairOf a b with
  | none => simp
  | some p =>
    obtain ⟨_, _, hok, hc1, hc2⟩ := pairOf_some h
    have l1 := addrs_length p.1 ⟨#[]⟩
    have l2 := addrs_length p.2 ⟨#[]⟩
    have hok' : p.1.carets = p.2.carets := hok
    have := slopesL_length (p.1.addrs ⟨#[]⟩) (p.2.addrs ⟨#[]⟩) (by omega)
    show (slopesL (p.1.addrs ⟨#[]⟩) (p.2.addrs ⟨#[]⟩)).length ≤ 1000000000
    omega

set_option maxRecDepth 100000 in
set_option maxHeartbeats 2000000 in
theorem mpSlopes_any (p : Pr) (w : World) (h1 : p.1.carets ≤ 8) (h2 : p.2.carets ≤ 8) (he : p.1.carets = p.2.carets) :
    Calls Tryd.prog 46 #[.agg #[.string p.1.str, .string p.2.str]] w (GivesInts (slopes p) w) := by
  obtain ⟨i0, hi, hz0, hz1, hz2⟩ := info_parts info_int
  have A1 := fun w => trAddresses_any p.1 ⟨#[]⟩ w (by omega) (by show 0 + p.1.carets ≤ 1000; omega)
  have A2 := fun w => trAddresses_any p.2 ⟨#[]⟩ w (by omega) (by show 0 + p.2.carets ≤ 1000; omega)
  have l1 := addrs_length p.1 ⟨#[]⟩
  have l2 := addrs_length p.2 ⟨#[]⟩
  have o1 := addrs_ok p.1 h1
  have o2 := addrs_ok p.2 h2
  unfold slopes
  generalize p.1.addrs ⟨#[]⟩ = xs at *
  generalize p.2.addrs ⟨#[]⟩ = ys at *
  obtain ⟨n, hn⟩ : ∃ n, n = xs.length := ⟨_, rfl⟩
  have hny : ys.length = n := by omega
  have hn9 : n ≤ 9 := by omega
  have hxy : xs.length = ys.length := by omega
  have pl := slopesL_length xs ys hxy
  have pg := slopesL_get xs ys hxy
  have hO : Hid (∀ k, k < n → okAd (xs.getD k ⟨#[]⟩) ∧ okAd (ys.getD k ⟨#[]⟩)) := by
    intro k hk
    have hk1 : k < xs.length := by omega
    have hk2 : k < ys.length := by omega
    exact ⟨o1 _ (by simp [hk1]), o2 _ (by simp [hk2])⟩
  have A1' : ∀ w, Calls Tryd.prog 21 #[.string p.1.str, .string ⟨#[]⟩] w fun e w' => ∃ g cap : Nat, OwnS w.heap.size w' (.slice (some ⟨g, 0, none⟩) n cap) xs ∧ Below w.heap.size w w' ∧ e = .returned (.slice (some ⟨g, 0, none⟩) n cap) := by
    intro w
    have := A1 w
    unfold GivesTexts at this
    rw [← hn] at this
    exact this
  have A2' : ∀ w, Calls Tryd.prog 21 #[.string p.2.str, .string ⟨#[]⟩] w fun e w' => ∃ g cap : Nat, OwnS w.heap.size w' (.slice (some ⟨g, 0, none⟩) n cap) ys ∧ Below w.heap.size w w' ∧ e = .returned (.slice (some ⟨g, 0, none⟩) n cap) := by
    intro w
    have := A2 w
    unfold GivesTexts at this
    rw [hny] at this
    exact this
  clear A1 A2
  rw [← hn] at pl pg
  have hX := hn.symm
  clear hn
  generalize slopesL xs ys = ps at *
  have PG := Lib.hid pg
  have PL := Lib.hid pl
  have HX := Lib.hid hX
  have HY := Lib.hid hny
  clear pg pl o1 o2 hxy l1 l2 hX hny
  go_enter Tryd.func46, Tryd.ntmps46
  go_wp2_with fail
  have hb0 : Below w.heap.size w (w.alloc (.cells #[.string p.1.str, .string p.2.str] 33 (0, 0))) := nxAlloc (Below.refl _ _) _
  have hx0 := heap_alloc_at w (.cells #[.string p.1.str, .string p.2.str] 33 (0, 0))
  generalize (w.alloc (.cells #[.string p.1.str, .string p.2.str] 33 (0, 0))) = w0 at *
  obtain ⟨hx0a, hx0b, hx0c⟩ := two_facts hx0
  obtain ⟨hx0f, hx0g⟩ := two_frozen hx0
  refine (A2' _).mono ?_; rintro e w1 ⟨g2, cap2, own2, hb1, rfl⟩
  have hbw1 := nx hb0 hb1
  replace hx0 := heap_keep hb1 hx0
  clear hx0a hx0b hx0c hx0f hx0g
  obtain ⟨hx0a, hx0b, hx0c⟩ := two_facts hx0
  obtain ⟨hx0f, hx0g⟩ := two_frozen hx0
  clear hb1 hb0
  go_wp2_with fail
  refine (A1' _).mono ?_; rintro e w2 ⟨g1, cap1, own1, hb2, rfl⟩
  have hbw2 := nx hbw1 hb2
  replace own2 := own2.keep hb2
  clear hb2 hbw1 hx0 hx0a hx0b hx0c hx0f hx0g A1' A2'
  go_wp2_with fail
  rcases own1.cells with ⟨h0, _⟩ | ⟨g1', cap1', hv1, _, hg1, hc1, hc2, hcell1, _⟩
  · simp at h0
  rcases own2.cells with ⟨h0, _⟩ | ⟨g2', cap2', hv2, _, hg2, hc3, hc4, hcell2, _⟩
  · simp at h0
  simp only [Value.slice.injEq, Option.some.injEq, Addr.mk.injEq, and_true] at hv1 hv2
  obtain ⟨rfl, e1, rfl⟩ := hv1
  obtain ⟨rfl, e2, rfl⟩ := hv2
  clear e1 e2
  have HC1 := Lib.hid hcell1
  have HC2 := Lib.hid hcell2
  unfold maxLen at hc2 hc4
  clear hcell1 hcell2 own1 own2
  go_loopw [3, 14] (fun v i wr => ∃ k : Nat, k ≤ n ∧ i = .int .i64 k ∧ OwnI w2.heap.size wr v (ps.take k) ∧ Below w2.heap.size w2 wr) (fun _ i _ => n - (intOf i).toNat)
  case atStart => exact ⟨0, Nat.zero_le _, rfl, OwnI.nil _ _, Below.refl _ _⟩
  case round =>
    obtain ⟨k, hk, rfl, hown, hbw⟩ := hrel
    by_cases hlt : k < n
    · have hlt' : (k : Int) < (n : Int) := by omega
      have hX := HX.out
      have hY := HY.out
      have c1 := (hbw.cell (p := ⟨g1, k, none⟩) hg1).trans (HC1.out k (by omega))
      have c2 := (hbw.cell (p := ⟨g2, k, none⟩) hg2).trans (HC2.out k (by omega))
      obtain ⟨ok1, ok2⟩ := hO.out k hlt
      have hpl := PL.out
      have hnext : ps.take (k + 1) = ps.take k ++ [ps.getD k 0] := by
        have : k < ps.length := by omega
        rw [List.take_succ_eq_append_getElem this]; simp [this]
      have hlen : (ps.take k).length = k := by simp; omega
      rw [PG.out k (by omega)] at hnext
      generalize ps.take k = qs at hown hlen hnext
      generalize xs.getD k ⟨#[]⟩ = a at *
      generalize ys.getD k ⟨#[]⟩ = b at *
      have sa := ok1.1
      have sb := ok2.1
      have hi3 : IntKind.i64.wrap ((a.size : Int) - (b.size : Int)) = (a.size : Int) - (b.size : Int) := by rw [IntKind.wrap_i64] <;> omega
      have HN := Lib.hid hnext
      have hq9 : qs.length ≤ 9 := by omega
      clear hnext hX hY ok1 ok2 hpl hlen
      go_wp2_with (at_builtin; refine wpList_append_own _ rfl _ _ 48 rfl w2.heap.size 3 i0 (.int .i64 0) 1 8 Tryd.underlying48 hi hz0 hz1 hz2 rfl (by decide) _ _ _ rfl (hown.alloc _) ⟨wr.heap.size, 0, none⟩ 1 1 [.int .i64 ((a.size : Int) - (b.size : Int))] rfl rfl (new1 _ _ _) (one1 _) (by unfold maxLen; omega) (by omega) (size_al hbw _) ?_; intro v' w3 hown' hgrow hnn)
      have hbw' := below_app hbw hown (Nat.le_refl _) hgrow
      have hown1 := OwnI.snoc hown'
      clear hown hown' hgrow hbw hnn
      go_wp2_with fail
      go_roundw
      case rel => exact ⟨k + 1, by omega, by go_num, by rw [HN.out]; exact hown1, hbw'⟩
      case measure => simp [intOf]; omega
    · obtain rfl : k = n := by omega
      have hpl := PL.out
      rw [List.take_of_length_le (by omega)] at hown
      go_wp2_with fail
      go_ret
      exact ⟨_, hown.mono hbw2.size, nx hbw2 hbw, rfl⟩

theorem newsAt (w : World) (n : Nat) (v : Value) (e : TypeId) (h : n = w.heap.size) : ∀ (j : Nat) (u : Value), [v][j]? = some u → (w.alloc (.cells #[v] e)).cell? ((⟨n, 0, none⟩ : Addr).add j) = some u := by
  subst h; exact new1 w v e
end Go.Proofs.YtdhjchibhlcchaaDoor
