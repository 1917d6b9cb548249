/- Walks: math/bits.OnesCount; impl.IsFraction. -/
import Derived.Test.YtdhjchibhlcchaaDoorFr1
import Derived.Test.YtdhjchibhlcchaaDoorFrQ
import Derived.Test.YtdhjchibhlcchaaDoorRegT
namespace Go.Proofs.YtdhjchibhlcchaaDoor
open Go.RowKit

def pop1 (d : Int) : Int := IntKind.u64.wrap (bits BinOp.and IntKind.u64 (d / 2) 6148914691236517205 + bits BinOp.and IntKind.u64 d 6148914691236517205)
def pop2 (x : Int) : Int := IntKind.u64.wrap (bits BinOp.and IntKind.u64 (x / 4) 3689348814741910323 + bits BinOp.and IntKind.u64 x 3689348814741910323)
def pop3 (x : Int) : Int := bits BinOp.and IntKind.u64 (IntKind.u64.wrap (x / 16 + x)) 1085102592571150095
def pop4 (x : Int) : Int := IntKind.u64.wrap (x + x / 256)
def pop5 (x : Int) : Int := IntKind.u64.wrap (x + x / 65536)
def pop6 (x : Int) : Int := IntKind.u64.wrap (x + x / 4294967296)
/-- How many ones, as math/bits counts them. -/
def pop (d : Int) : Int := bits BinOp.and IntKind.i64 (wrap64 (pop6 (pop5 (pop4 (pop3 (pop2 (pop1 d))))))) 127
set_option maxRecDepth 100000 in
theorem pop_isP2 : ∀ d : Fin 1025, 0 < d.val → ((pop (d.val : Int) == 1) = isP2 (d.val : Int)) := by decide +kernel
theorem pop_ne {d : Int} (h0 : 1 ≤ d) (h1 : d ≤ 1024) : (pop d != 1) = !isP2 d := by
  have := pop_isP2 ⟨d.toNat, by omega⟩ (by show 0 < d.toNat; omega)
  have e : ((d.toNat : Nat) : Int) = d := by omega
  simp only [e] at this
  rw [bne, this]

set_option maxHeartbeats 2000000 in
theorem onesCount64_any (d : Int) (w : World) (_h0 : 1 ≤ d) (_h : d ≤ 1024) :
    Calls Tryd.prog 80 #[.int .u64 d] w (Gives (.int .i64 (pop d)) w) := by
  go_enter Tryd.func80, Tryd.ntmps80
  go_wp2_with fail
  go_ret
  refine ⟨ret_int ?_, Below.refl _ _⟩
  rfl
set_option maxHeartbeats 2000000 in
theorem onesCount_any (d : Int) (w : World) (h0 : 1 ≤ d) (h : d ≤ 1024) :
    Calls Tryd.prog 65 #[.int .u64 d] w (Gives (.int .i64 (pop d)) w) := by
  have ho := fun w => onesCount64_any d w h0 h
  generalize pop d = r at *
  go_enter Tryd.func65, Tryd.ntmps65
  go_wp2_with fail
  refine (ho _).mono ?_; rintro e w1 ⟨rfl, hb1⟩
  go_wp2_with fail
  go_ret
  exact ⟨rfl, hb1⟩

set_option maxHeartbeats 2000000 in
theorem isFraction_any (n d : Int) (w : World) :
    Calls Tryd.prog 35 #[.agg #[.int .i64 n, .int .i64 d]] w (Gives (.bool (isFr n d)) w) := by
  by_cases h1 : d < 1
  · have e : isFr n d = false := by rw [Bool.eq_false_iff, Ne, isFr_iff]; intro h; have := isP2_bounds h.1; omega
    rw [e]
    clear e
    go_enter Tryd.func35, Tryd.ntmps35
    go_wp2_with fail
    have hb0 : Below w.heap.size w (w.alloc (.cells #[.int .i64 n, .int .i64 d] 23 (0, 0))) := nxAlloc (Below.refl _ _) _
    have hx0 := heap_alloc_at w (.cells #[.int .i64 n, .int .i64 d] 23 (0, 0))
    generalize (w.alloc (.cells #[.int .i64 n, .int .i64 d] 23 (0, 0))) = w0 at *
    obtain ⟨hx0a, hx0b, hx0c⟩ := two_facts hx0
    obtain ⟨hx0f, hx0g⟩ := two_frozen hx0
    go_ret
    exact ⟨rfl, hb0⟩
  · by_cases h2 : 1024 < d
    · have e : isFr n d = false := by rw [Bool.eq_false_iff, Ne, isFr_iff]; intro h; have := isP2_bounds h.1; omega
      rw [e]
      clear e
      go_enter Tryd.func35, Tryd.ntmps35
      go_wp2_with fail
      have hb0 : Below w.heap.size w (w.alloc (.cells #[.int .i64 n, .int .i64 d] 23 (0, 0))) := nxAlloc (Below.refl _ _) _
      have hx0 := heap_alloc_at w (.cells #[.int .i64 n, .int .i64 d] 23 (0, 0))
      generalize (w.alloc (.cells #[.int .i64 n, .int .i64 d] 23 (0, 0))) = w0 at *
      obtain ⟨hx0a, hx0b, hx0c⟩ := two_facts hx0
      obtain ⟨hx0f, hx0g⟩ := two_frozen hx0
      go_ret
      exact ⟨rfl, hb0⟩
    · have hp := pop_ne (d := d) (by omega) (by omega)
      have ho := fun w => onesCount_any d w (by omega) (by omega)
      cases hq : isP2 d with
      | false =>
        rw [hq] at hp
        have hp' : (pop d != 1) = true := hp
        have e : isFr n d = false := by unfold isFr; rw [hq]; rfl
        rw [e]
        clear e hp hq
        generalize pop d = r at *
        go_enter Tryd.func35, Tryd.ntmps35
        go_wp2_with fail
        have hb0 : Below w.heap.size w (w.alloc (.cells #[.int .i64 n, .int .i64 d] 23 (0, 0))) := nxAlloc (Below.refl _ _) _
        have hx0 := heap_alloc_at w (.cells #[.int .i64 n, .int .i64 d] 23 (0, 0))
        generalize (w.alloc (.cells #[.int .i64 n, .int .i64 d] 23 (0, 0))) = w0 at *
        obtain ⟨hx0a, hx0b, hx0c⟩ := two_facts hx0
        obtain ⟨hx0f, hx0g⟩ := two_frozen hx0
        refine (ho _).mono ?_; rintro e w1 ⟨rfl, hb1⟩
        have hbw1 := nx hb0 hb1
        replace hx0 := heap_keep hb1 hx0
        clear hx0a hx0b hx0c hx0f hx0g
        obtain ⟨hx0a, hx0b, hx0c⟩ := two_facts hx0
        obtain ⟨hx0f, hx0g⟩ := two_frozen hx0
        clear hb1 hb0
        go_wp2_with fail
        go_ret
        exact ⟨rfl, hbw1⟩
      | true =>
        rw [hq] at hp
        have hp' : (pop d != 1) = false := hp
        obtain ⟨R, hR⟩ : ∃ R, R = isFr n d := ⟨_, rfl⟩
        rw [← hR]
        have e : isFr n d = (decide (0 ≤ n) && (decide (n ≤ d) && (decide (d = 1) || decide (n % 2 = 1)))) := by unfold isFr; rw [hq, Bool.true_and]
        rw [e] at hR
        clear e hp hq
        generalize pop d = r at *
        by_cases h3 : 0 ≤ n
        · by_cases h4 : n ≤ d
          · rw [decide_eq_true h3, decide_eq_true h4, Bool.true_and, Bool.true_and] at hR
            by_cases hd : d = 1
            · have hd0 : (d == 1) = true := by rw [beq_iff_eq]; exact hd
              rw [decide_eq_true hd, Bool.true_or] at hR
              have HR := Lib.hid hR
              clear hd hR
              go_enter Tryd.func35, Tryd.ntmps35
              go_wp2_with fail
              have hb0 : Below w.heap.size w (w.alloc (.cells #[.int .i64 n, .int .i64 d] 23 (0, 0))) := nxAlloc (Below.refl _ _) _
              have hx0 := heap_alloc_at w (.cells #[.int .i64 n, .int .i64 d] 23 (0, 0))
              generalize (w.alloc (.cells #[.int .i64 n, .int .i64 d] 23 (0, 0))) = w0 at *
              obtain ⟨hx0a, hx0b, hx0c⟩ := two_facts hx0
              obtain ⟨hx0f, hx0g⟩ := two_frozen hx0
              refine (ho _).mono ?_; rintro e w1 ⟨rfl, hb1⟩
              have hbw1 := nx hb0 hb1
              replace hx0 := heap_keep hb1 hx0
              clear hx0a hx0b hx0c hx0f hx0g
              obtain ⟨hx0a, hx0b, hx0c⟩ := two_facts hx0
              obtain ⟨hx0f, hx0g⟩ := two_frozen hx0
              clear hb1 hb0
              go_wp2_with fail
              go_ret
              refine ⟨ret_bool ?_, hbw1⟩
              first | (rw [HR.out]; done) | (rw [HR.out]; rfl)
            · have hd0 : (d == 1) = false := by rw [beq_eq_false_iff_ne]; exact hd
              rw [decide_eq_false hd, Bool.false_or] at hR
              have HR := Lib.hid hR
              clear hd hR
              go_enter Tryd.func35, Tryd.ntmps35
              go_wp2_with fail
              have hb0 : Below w.heap.size w (w.alloc (.cells #[.int .i64 n, .int .i64 d] 23 (0, 0))) := nxAlloc (Below.refl _ _) _
              have hx0 := heap_alloc_at w (.cells #[.int .i64 n, .int .i64 d] 23 (0, 0))
              generalize (w.alloc (.cells #[.int .i64 n, .int .i64 d] 23 (0, 0))) = w0 at *
              obtain ⟨hx0a, hx0b, hx0c⟩ := two_facts hx0
              obtain ⟨hx0f, hx0g⟩ := two_frozen hx0
              refine (ho _).mono ?_; rintro e w1 ⟨rfl, hb1⟩
              have hbw1 := nx hb0 hb1
              replace hx0 := heap_keep hb1 hx0
              clear hx0a hx0b hx0c hx0f hx0g
              obtain ⟨hx0a, hx0b, hx0c⟩ := two_facts hx0
              obtain ⟨hx0f, hx0g⟩ := two_frozen hx0
              clear hb1 hb0
              go_wp2_with fail
              go_ret
              refine ⟨ret_bool ?_, hbw1⟩
              first | (rw [HR.out]; done) | (rw [HR.out]; rfl)
          · rw [decide_eq_false h4, Bool.false_and, Bool.and_false] at hR
            have HR := Lib.hid hR
            clear hR
            go_enter Tryd.func35, Tryd.ntmps35
            go_wp2_with fail
            have hb0 : Below w.heap.size w (w.alloc (.cells #[.int .i64 n, .int .i64 d] 23 (0, 0))) := nxAlloc (Below.refl _ _) _
            have hx0 := heap_alloc_at w (.cells #[.int .i64 n, .int .i64 d] 23 (0, 0))
            generalize (w.alloc (.cells #[.int .i64 n, .int .i64 d] 23 (0, 0))) = w0 at *
            obtain ⟨hx0a, hx0b, hx0c⟩ := two_facts hx0
            obtain ⟨hx0f, hx0g⟩ := two_frozen hx0
            refine (ho _).mono ?_; rintro e w1 ⟨rfl, hb1⟩
            have hbw1 := nx hb0 hb1
            replace hx0 := heap_keep hb1 hx0
            clear hx0a hx0b hx0c hx0f hx0g
            obtain ⟨hx0a, hx0b, hx0c⟩ := two_facts hx0
            obtain ⟨hx0f, hx0g⟩ := two_frozen hx0
            clear hb1 hb0
            go_wp2_with fail
            go_ret
            refine ⟨ret_bool ?_, hbw1⟩
            first | (rw [HR.out]; done) | (rw [HR.out]; rfl)
        · rw [decide_eq_false h3, Bool.false_and] at hR
          have HR := Lib.hid hR
          clear hR
          go_enter Tryd.func35, Tryd.ntmps35
          go_wp2_with fail
          have hb0 : Below w.heap.size w (w.alloc (.cells #[.int .i64 n, .int .i64 d] 23 (0, 0))) := nxAlloc (Below.refl _ _) _
          have hx0 := heap_alloc_at w (.cells #[.int .i64 n, .int .i64 d] 23 (0, 0))
          generalize (w.alloc (.cells #[.int .i64 n, .int .i64 d] 23 (0, 0))) = w0 at *
          obtain ⟨hx0a, hx0b, hx0c⟩ := two_facts hx0
          obtain ⟨hx0f, hx0g⟩ := two_frozen hx0
          refine (ho _).mono ?_; rintro e w1 ⟨rfl, hb1⟩
          have hbw1 := nx hb0 hb1
          replace hx0 := heap_keep hb1 hx0
          clear hx0a hx0b hx0c hx0f hx0g
          obtain ⟨hx0a, hx0b, hx0c⟩ := two_facts hx0
          obtain ⟨hx0f, hx0g⟩ := two_frozen hx0
          clear hb1 hb0
          go_wp2_with fail
          go_ret
          refine ⟨ret_bool ?_, hbw1⟩
          first | (rw [HR.out]; done) | (rw [HR.out]; rfl)
end Go.Proofs.YtdhjchibhlcchaaDoor
