/- Walks: fractions: toFraction, eqFraction; spec.mpGood, mpIf, mpGcd, mpShort, IsFraction. -/
import Derived.Test.YtdhjchibhlcchaaFrP
import Derived.Test.YtdhjchibhlcchaaIn0
import Derived.Test.YtdhjchibhlcchaaPairK
import Derived.Test.YtdhjchibhlcchaaQuiet
namespace Go.Proofs.Ytdhjchibhlcchaa
open Go.RowKit

/-- A fraction as a value. -/
abbrev fv (n d : Int) : Value := .agg #[.int .i64 n, .int .i64 d]

theorem toFraction_any (n d : Int) (w : World) :
    Calls Try.prog 12 #[.agg #[.int .i64 n, .int .i64 d]] w (Gives (.agg #[.int .i64 n, .int .i64 d]) w) := by
  go_enter Try.func12, Try.ntmps12
  go_wp2
  refine bodyPost_ret (v := .agg #[.int .i64 n, .int .i64 d]) (by simp [results, Try.results12, go_sem]) rfl ⟨rfl, ?_⟩
  exact nxAlloc (nxAlloc (nxAlloc (Below.refl _ _) _) _) _

theorem eqFraction_same (n d : Int) (w : World) :
    Calls Try.prog 18 #[.agg #[.int .i64 n, .int .i64 d], .agg #[.int .i64 n, .int .i64 d]] w (Gives (.bool true) w) := by
  go_enter Try.func18, Try.ntmps18
  go_wp2
  go_ret
  exact ⟨rfl, ((Below.refl _ _).alloc (Nat.le_refl _) _).alloc (by simp) _⟩

set_option maxHeartbeats 1000000 in
theorem mpGood_any (n d : Int) (w : World) :
    Calls Try.prog 38 #[.agg #[.int .i64 n, .int .i64 d]] w (Gives (.bool (isFr n d)) w) := by
  by_cases h1 : d < 1 ∨ 1024 < d
  · have e : isFr n d = false := by rw [Bool.eq_false_iff, Ne, isFr_iff]; intro h; have := isP2_bounds h.1; omega
    rw [e]
    clear e
    have H := Lib.hid h1
    clear h1
    go_enter Try.func38, Try.ntmps38
    go_wp2_with fail
    have hb0 : Below w.heap.size w (w.alloc (.cells #[.int .i64 n, .int .i64 d] 26 (0, 0))) := nxAlloc (Below.refl _ _) _
    have hx0 := heap_alloc_at w (.cells #[.int .i64 n, .int .i64 d] 26 (0, 0))
    generalize (w.alloc (.cells #[.int .i64 n, .int .i64 d] 26 (0, 0))) = w0 at *
    obtain ⟨hx0a, hx0b, hx0c⟩ := two_facts hx0
    obtain ⟨hx0f, hx0g⟩ := two_frozen hx0
    refine (l1In_no d 1 1024 _ H.out).mono ?_; rintro e w' ⟨rfl, rfl⟩
    go_wp2_with fail
    go_ret
    exact ⟨rfl, hb0⟩
  · have h1a : 1 ≤ d := by omega
    have h1b : d ≤ 1024 := by omega
    clear h1
    by_cases h2 : n < 0 ∨ d < n
    · have e : isFr n d = false := by rw [Bool.eq_false_iff, Ne, isFr_iff]; intro h; omega
      rw [e]
      clear e
      have H := Lib.hid h2
      clear h2
      go_enter Try.func38, Try.ntmps38
      go_wp2_with fail
      have hb0 : Below w.heap.size w (w.alloc (.cells #[.int .i64 n, .int .i64 d] 26 (0, 0))) := nxAlloc (Below.refl _ _) _
      have hx0 := heap_alloc_at w (.cells #[.int .i64 n, .int .i64 d] 26 (0, 0))
      generalize (w.alloc (.cells #[.int .i64 n, .int .i64 d] 26 (0, 0))) = w0 at *
      obtain ⟨hx0a, hx0b, hx0c⟩ := two_facts hx0
      obtain ⟨hx0f, hx0g⟩ := two_frozen hx0
      refine (l1In_yes d 1 1024 _ h1a h1b).mono ?_; rintro e w' ⟨rfl, rfl⟩
      go_wp2_with fail
      refine (l1In_no n 0 d _ H.out).mono ?_; rintro e w' ⟨rfl, rfl⟩
      go_wp2_with fail
      go_ret
      exact ⟨rfl, hb0⟩
    · have h2a : 0 ≤ n := by omega
      have h2b : n ≤ d := by omega
      clear h2
      have e : isFr n d = (isP2 d && (decide (d = 1) || decide (n % 2 = 1))) := by
        unfold isFr
        rw [show decide (0 ≤ n) = true by simpa using h2a, show decide (n ≤ d) = true by simpa using h2b, Bool.true_and, Bool.true_and]
      obtain ⟨R, hR⟩ : ∃ R, R = isFr n d := ⟨_, rfl⟩
      rw [← hR]
      rw [e] at hR
      have HR := Lib.hid hR
      clear e hR
      go_enter Try.func38, Try.ntmps38
      go_wp2_with fail
      have hb0 : Below w.heap.size w (w.alloc (.cells #[.int .i64 n, .int .i64 d] 26 (0, 0))) := nxAlloc (Below.refl _ _) _
      have hx0 := heap_alloc_at w (.cells #[.int .i64 n, .int .i64 d] 26 (0, 0))
      generalize (w.alloc (.cells #[.int .i64 n, .int .i64 d] 26 (0, 0))) = w0 at *
      obtain ⟨hx0a, hx0b, hx0c⟩ := two_facts hx0
      obtain ⟨hx0f, hx0g⟩ := two_frozen hx0
      refine (l1In_yes d 1 1024 _ h1a h1b).mono ?_; rintro e w' ⟨rfl, rfl⟩
      go_wp2_with fail
      refine (l1In_yes n 0 d _ h2a h2b).mono ?_; rintro e w' ⟨rfl, rfl⟩
      go_wp2_with fail
      go_loop [3] (fun i => ∃ k : Int, i = .int .i64 k ∧ 1 ≤ k ∧ k ≤ 1024 ∧ Hid (isP2 d = isP2 k)) (fun i => (intOf i).toNat)
      case atStart => exact ⟨d, rfl, h1a, h1b, rfl⟩
      case round =>
        obtain ⟨k, rfl, k1, k2, he⟩ := hrel
        by_cases hlt : 1 < k
        · by_cases hodd : k % 2 = 1
          · have he' := he.out
            rw [isP2_odd hlt hodd] at he'
            have HE := Lib.hid he'
            clear he he'
            go_wp2_with fail
            go_ret
            refine ⟨ret_bool ?_, hb0⟩
            rw [HR.out, HE.out, Bool.false_and]
          · have he' := he.out
            rw [← isP2_half hlt k2 hodd] at he'
            have HE := Lib.hid he'
            clear he he'
            go_wp2_with fail
            go_round
            case rel => exact ⟨k / 2, by go_num, by omega, by omega, HE⟩
            case measure => simp [intOf]; omega
        · obtain rfl : k = 1 := by omega
          have he' := he.out
          rw [show isP2 1 = true by decide] at he'
          have HE := Lib.hid he'
          clear he he'
          by_cases hd : d = 1
          · have hd0 : (d == 1) = true := by rw [beq_iff_eq]; exact hd
            have HD := Lib.hid hd
            clear hd
            go_wp2_with fail
            go_ret
            refine ⟨ret_bool ?_, hb0⟩
            rw [HR.out, HE.out, HD.out]
            rfl
          · have hd0 : (d == 1) = false := by rw [beq_eq_false_iff_ne]; exact hd
            have HD := Lib.hid hd
            clear hd
            go_wp2_with fail
            go_ret
            refine ⟨ret_bool ?_, hb0⟩
            rw [HR.out, HE.out, decide_eq_false HD.out]
            rfl

/-- A fraction as an answer, zeros for none. -/
def fS1 (o : Option (Nat × Nat)) : Int := match o with
  | some x => x.1
  | none => 0
def fS2 (o : Option (Nat × Nat)) : Int := match o with
  | some x => x.2
  | none => 0
def ansF (o : Option (Nat × Nat)) : Value := .tuple #[.agg #[.int .i64 (fS1 o), .int .i64 (fS2 o)], .bool o.isSome]

set_option maxHeartbeats 1000000 in
theorem mpIf_any (n d : Nat) (w : World) :
    Calls Try.prog 44 #[.agg #[.int .i64 n, .int .i64 d]] w (Gives (ansF (if isFr n d = true then some (n, d) else none)) w) := by
  have hg := fun w => mpGood_any n d w
  cases h : isFr n d with
  | false =>
    rw [h] at hg
    show Calls _ _ _ _ (Gives (ansF none) w)
    clear h
    go_enter Try.func44, Try.ntmps44
    go_wp2_with fail
    have hb0 : Below w.heap.size w ((w.alloc (.cells #[.int .i64 n, .int .i64 d] 26 (0, 0))).alloc (.cells #[.int .i64 0, .int .i64 0] 26 (0, 0))) := nxAlloc (nxAlloc (Below.refl _ _) _) _
    have hx0 := heap_keep (nxAlloc (Below.refl _ _) (.cells #[.int .i64 0, .int .i64 0] 26 (0, 0))) (heap_alloc_at w (.cells #[.int .i64 n, .int .i64 d] 26 (0, 0)))
    have hx1 := heap_alloc_at (w.alloc (.cells #[.int .i64 n, .int .i64 d] 26 (0, 0))) (.cells #[.int .i64 0, .int .i64 0] 26 (0, 0))
    generalize ((w.alloc (.cells #[.int .i64 n, .int .i64 d] 26 (0, 0))).alloc (.cells #[.int .i64 0, .int .i64 0] 26 (0, 0))) = w0 at *
    have e1 : (w.alloc (.cells #[.int .i64 n, .int .i64 d] 26 (0, 0))).heap.size = w.heap.size + 1 := by simp
    rw [e1] at hx1
    clear e1
    obtain ⟨hx0a, hx0b, hx0c⟩ := two_facts hx0
    obtain ⟨hx0f, hx0g⟩ := two_frozen hx0
    obtain ⟨hx1a, hx1b, hx1c⟩ := two_facts hx1
    obtain ⟨hx1f, hx1g⟩ := two_frozen hx1
    refine (hg _).mono ?_; rintro e w1 ⟨rfl, hb1⟩
    have hbw1 := nx hb0 hb1
    replace hx0 := heap_keep hb1 hx0
    replace hx1 := heap_keep hb1 hx1
    clear hx0a hx0b hx0c hx0f hx0g
    obtain ⟨hx0a, hx0b, hx0c⟩ := two_facts hx0
    obtain ⟨hx0f, hx0g⟩ := two_frozen hx0
    clear hx1a hx1b hx1c hx1f hx1g
    obtain ⟨hx1a, hx1b, hx1c⟩ := two_facts hx1
    obtain ⟨hx1f, hx1g⟩ := two_frozen hx1
    clear hb1 hb0
    go_wp2_with fail
    obtain ⟨q1, q2⟩ := two_cells (set_two (.int .i64 0) (.int .i64 0) hx1)
    refine bodyPost_ret (v := .tuple #[.agg #[.int .i64 0, .int .i64 0], .bool false]) (by simp [q1, q2, results, Try.results44, go_sem]) rfl ⟨rfl, ?_⟩
    exact (hbw1.setCell (by show w.heap.size ≤ w.heap.size + 1; omega) _).setCell (by show w.heap.size ≤ w.heap.size + 1; omega) _
  | true =>
    rw [h] at hg
    show Calls _ _ _ _ (Gives (ansF (some (n, d))) w)
    clear h
    go_enter Try.func44, Try.ntmps44
    go_wp2_with fail
    have hb0 : Below w.heap.size w ((w.alloc (.cells #[.int .i64 n, .int .i64 d] 26 (0, 0))).alloc (.cells #[.int .i64 0, .int .i64 0] 26 (0, 0))) := nxAlloc (nxAlloc (Below.refl _ _) _) _
    have hx0 := heap_keep (nxAlloc (Below.refl _ _) (.cells #[.int .i64 0, .int .i64 0] 26 (0, 0))) (heap_alloc_at w (.cells #[.int .i64 n, .int .i64 d] 26 (0, 0)))
    have hx1 := heap_alloc_at (w.alloc (.cells #[.int .i64 n, .int .i64 d] 26 (0, 0))) (.cells #[.int .i64 0, .int .i64 0] 26 (0, 0))
    generalize ((w.alloc (.cells #[.int .i64 n, .int .i64 d] 26 (0, 0))).alloc (.cells #[.int .i64 0, .int .i64 0] 26 (0, 0))) = w0 at *
    have e1 : (w.alloc (.cells #[.int .i64 n, .int .i64 d] 26 (0, 0))).heap.size = w.heap.size + 1 := by simp
    rw [e1] at hx1
    clear e1
    obtain ⟨hx0a, hx0b, hx0c⟩ := two_facts hx0
    obtain ⟨hx0f, hx0g⟩ := two_frozen hx0
    obtain ⟨hx1a, hx1b, hx1c⟩ := two_facts hx1
    obtain ⟨hx1f, hx1g⟩ := two_frozen hx1
    refine (hg _).mono ?_; rintro e w1 ⟨rfl, hb1⟩
    have hbw1 := nx hb0 hb1
    replace hx0 := heap_keep hb1 hx0
    replace hx1 := heap_keep hb1 hx1
    clear hx0a hx0b hx0c hx0f hx0g
    obtain ⟨hx0a, hx0b, hx0c⟩ := two_facts hx0
    obtain ⟨hx0f, hx0g⟩ := two_frozen hx0
    clear hx1a hx1b hx1c hx1f hx1g
    obtain ⟨hx1a, hx1b, hx1c⟩ := two_facts hx1
    obtain ⟨hx1f, hx1g⟩ := two_frozen hx1
    clear hb1 hb0
    go_wp2_with fail
    obtain ⟨q1, q2⟩ := two_cells (set_two (.int .i64 n) (.int .i64 d) hx1)
    refine bodyPost_ret (v := .tuple #[.agg #[.int .i64 n, .int .i64 d], .bool true]) (by simp [q1, q2, results, Try.results44, go_sem]) rfl ⟨rfl, ?_⟩
    exact (hbw1.setCell (by show w.heap.size ≤ w.heap.size + 1; omega) _).setCell (by show w.heap.size ≤ w.heap.size + 1; omega) _

set_option maxHeartbeats 1000000 in
theorem mpGcd_any (a b : Nat) (w : World) (ha : (a : Int) ≤ 9223372036854775807) (hb : (b : Int) ≤ 9223372036854775807) :
    Calls Try.prog 105 #[.int .i64 a, .int .i64 b] w (Gives (.int .i64 (Nat.gcd a b : Nat)) w) := by
  go_enter Try.func105, Try.ntmps105
  go_wp2_with fail
  go_loopw [0, 1] (fun i j wr => ∃ x y : Nat, i = .int .i64 x ∧ j = .int .i64 y ∧ (x : Int) ≤ 9223372036854775807 ∧ (y : Int) ≤ 9223372036854775807 ∧ Below w.heap.size w wr ∧ Hid (Nat.gcd a b = Nat.gcd x y)) (fun _ j _ => (intOf j).toNat)
  case atStart => exact ⟨a, b, rfl, rfl, ha, hb, Below.refl _ _, rfl⟩
  case round =>
    obtain ⟨x, y, rfl, rfl, hx, hy, hbw, he⟩ := hrel
    by_cases hlt : (0 : Int) < y
    · have he' := he.out
      rw [Nat.gcd_comm x y, Nat.gcd_rec y x, Nat.gcd_comm (x % y) y] at he'
      have hy0 : ((y : Int) == 0) = false := by rw [beq_eq_false_iff_ne]; omega
      have hmod : x % y < y := Nat.mod_lt _ (by omega)
      have HE := Lib.hid he'
      clear he he'
      go_wp2_with fail
      go_quiet (fail)
      go_wp2_with fail
      go_roundw
      case rel => exact ⟨y, x % y, rfl, by go_num, hy, by omega, drewB hbw _, HE⟩
      case measure => simp [intOf]; omega
    · obtain rfl : y = 0 := by omega
      have he' := he.out
      rw [Nat.gcd_zero_right] at he'
      have HE := Lib.hid he'
      clear he he'
      go_wp2_with fail
      go_ret
      exact ⟨ret_int (by rw [HE.out]), hbw⟩
end Go.Proofs.Ytdhjchibhlcchaa
