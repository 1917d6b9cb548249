/- Walks: spec.mpShort, HalfOf. -/
import Derived.Test.YtbmegkphmifokaaFr1
import Derived.Test.YtbmegkphmifokaaFrQ
import Derived.Test.YtbmegkphmifokaaRegT
namespace Go.Proofs.Ytbmegkphmifokaa
open Go.RowKit

theorem wrap_div {n g : Nat} (h : (n : Int) ≤ 4611686018427387904) : IntKind.i64.wrap ((n : Int) / (g : Int)) = ((n / g : Nat) : Int) := by
  have h1 := Nat.div_le_self n g
  rw [← Int.natCast_ediv]
  generalize n / g = x at *
  rw [IntKind.wrap_i64] <;> omega
set_option maxHeartbeats 1000000 in
theorem mpShort_any (n d : Nat) (w : World) (hd : 0 < d) (hn2 : (n : Int) ≤ 4611686018427387904) (hd2 : (d : Int) ≤ 4611686018427387904) :
    Calls Try.prog 70 #[.int .i64 n, .int .i64 d] w (Gives (.agg #[.int .i64 (shortN n d).1, .int .i64 (shortN n d).2]) w) := by
  have hg := fun w => mpGcd_any n d w (by omega) (by omega)
  have g0 : 0 < Nat.gcd n d := Nat.gcd_pos_of_pos_right _ hd
  unfold shortN
  dsimp only
  generalize Nat.gcd n d = g at *
  have hg0 : ((g : Int) == 0) = false := by rw [beq_eq_false_iff_ne]; omega
  have q1 := wrap_div (g := g) hn2
  have q2 := wrap_div (g := g) hd2
  generalize n / g = x1 at *
  generalize d / g = x2 at *
  have HQ1 := Lib.hid q1
  have HQ2 := Lib.hid q2
  clear q1 q2
  go_enter Try.func70, Try.ntmps70
  go_wp2_with fail
  have hb0 : Below w.heap.size w (w.alloc (.cells #[.int .i64 0, .int .i64 0] 25 (0, 0))) := nxAlloc (Below.refl _ _) _
  have hx0 := heap_alloc_at w (.cells #[.int .i64 0, .int .i64 0] 25 (0, 0))
  generalize (w.alloc (.cells #[.int .i64 0, .int .i64 0] 25 (0, 0))) = w0 at *
  obtain ⟨hx0a, hx0b, hx0c⟩ := two_facts hx0
  obtain ⟨hx0f, hx0g⟩ := two_frozen hx0
  refine (hg _).mono ?_; rintro e w1 ⟨rfl, hb1⟩
  have hbw1 := nx hb0 hb1
  replace hx0 := heap_keep hb1 hx0
  clear hx0a hx0b hx0c hx0f hx0g
  obtain ⟨hx0a, hx0b, hx0c⟩ := two_facts hx0
  obtain ⟨hx0f, hx0g⟩ := two_frozen hx0
  clear hb1 hb0
  go_wp2_with fail
  refine wp_region_clsT 7 (by kernel_rfl) (by kernel_rfl) ?_
  simp only [List.take_succ_cons, List.take_zero, List.drop_succ_cons, List.drop_zero]
  repeat (
    refine wpQuiet_step (fun K hK => ?_)
    go_simp
    first
      | (refine hK _ ?_; clear hK K)
      | (refine ⟨_, fun _ _ => rfl, hK _ ?_⟩; clear hK K)
      | (apply Exists.intro
         refine ⟨fun w' hw' => ?_, hK _ ?_⟩
         · first
             | (rw [if_neg (by omega), HQ1.out]; exact ⟨rfl, rfl⟩)
             | (rw [if_neg (by omega), HQ2.out]; exact ⟨rfl, rfl⟩)
         clear hK K))
  refine wpQuiet_nil ?_
  intro w' hw'
  have hbwf := nx hbw1 hw'
  replace hx0 := heap_keep hw' hx0
  clear hw' hbw1
  clear hx0a hx0b hx0c hx0f hx0g
  obtain ⟨hx0a, hx0b, hx0c⟩ := two_facts hx0
  obtain ⟨hx0f, hx0g⟩ := two_frozen hx0
  go_wp2_with fail
  obtain ⟨q1, q2⟩ := two_cells (set_two (.int .i64 x1) (.int .i64 x2) hx0)
  refine bodyPost_ret (v := .agg #[.int .i64 x1, .int .i64 x2]) (by simp [q1, q2, results, Try.results70, go_sem]) rfl ⟨rfl, ?_⟩
  exact (hbwf.setCell (by show w.heap.size ≤ w.heap.size; omega) _).setCell (by show w.heap.size ≤ w.heap.size; omega) _

/-- The half of a sum of two fractions. -/
def halfO (n d m e : Int) : Option (Nat × Nat) := if isFr n d = true ∧ isFr m e = true then frA ((stepsOf n d + stepsOf m e) / 2) else none
theorem isFr_nats {n d : Int} (h : isFr n d = true) : ∃ a b : Nat, n = a ∧ d = b ∧ a ≤ b ∧ 1 ≤ b ∧ b ≤ 1024 := by
  obtain ⟨h1, h2, h3, h4⟩ := isFr_iff.1 h
  have := isP2_bounds h1
  exact ⟨n.toNat, d.toNat, by omega, by omega, by omega, by omega, by omega⟩
theorem mul_bound {a b : Nat} {x y : Nat} (h : a ≤ x) (k : b ≤ y) : a * b ≤ x * y := Nat.mul_le_mul h k

set_option maxHeartbeats 2000000 in
theorem specHalfOf_any (n d m e : Int) (w : World) (_l1 : -9223372036854775808 ≤ n) (_u1 : n ≤ 9223372036854775807) (_l2 : -9223372036854775808 ≤ d) (_u2 : d ≤ 9223372036854775807) (_l3 : -9223372036854775808 ≤ m) (_u3 : m ≤ 9223372036854775807) (_l4 : -9223372036854775808 ≤ e) (_u4 : e ≤ 9223372036854775807) :
    Calls Try.prog 41 #[.agg #[.int .i64 n, .int .i64 d], .agg #[.int .i64 m, .int .i64 e]] w (Gives (ansF (halfO n d m e)) w) := by
  unfold halfO
  have hg := fun w => mpGood_any n d w
  have hk := fun w => mpGood_any m e w
  cases h : isFr n d with
  | false =>
    rw [h] at hg
    rw [if_neg (by simp)]
    clear h hk _l1 _u1 _l2 _u2 _l3 _u3 _l4 _u4
    go_enter Try.func41, Try.ntmps41
    go_wp2_with fail
    have hb0 : Below w.heap.size w (((w.alloc (.cells #[.int .i64 n, .int .i64 d] 25 (0, 0))).alloc (.cells #[.int .i64 m, .int .i64 e] 25 (0, 0))).alloc (.cells #[.int .i64 0, .int .i64 0] 25 (0, 0))) := nxAlloc (nxAlloc (nxAlloc (Below.refl _ _) _) _) _
    have hx0 := heap_keep (nxAlloc (Below.refl _ _) (.cells #[.int .i64 0, .int .i64 0] 25 (0, 0))) (heap_keep (nxAlloc (Below.refl _ _) (.cells #[.int .i64 m, .int .i64 e] 25 (0, 0))) (heap_alloc_at w (.cells #[.int .i64 n, .int .i64 d] 25 (0, 0))))
    have hx1 := heap_keep (nxAlloc (Below.refl _ _) (.cells #[.int .i64 0, .int .i64 0] 25 (0, 0))) (heap_alloc_at (w.alloc (.cells #[.int .i64 n, .int .i64 d] 25 (0, 0))) (.cells #[.int .i64 m, .int .i64 e] 25 (0, 0)))
    have hx2 := heap_alloc_at ((w.alloc (.cells #[.int .i64 n, .int .i64 d] 25 (0, 0))).alloc (.cells #[.int .i64 m, .int .i64 e] 25 (0, 0))) (.cells #[.int .i64 0, .int .i64 0] 25 (0, 0))
    generalize (((w.alloc (.cells #[.int .i64 n, .int .i64 d] 25 (0, 0))).alloc (.cells #[.int .i64 m, .int .i64 e] 25 (0, 0))).alloc (.cells #[.int .i64 0, .int .i64 0] 25 (0, 0))) = w0 at *
    have e1 : (w.alloc (.cells #[.int .i64 n, .int .i64 d] 25 (0, 0))).heap.size = w.heap.size + 1 := by simp
    rw [e1] at hx1
    clear e1
    have e2 : ((w.alloc (.cells #[.int .i64 n, .int .i64 d] 25 (0, 0))).alloc (.cells #[.int .i64 m, .int .i64 e] 25 (0, 0))).heap.size = w.heap.size + 1 + 1 := by simp
    rw [e2] at hx2
    clear e2
    obtain ⟨hx0a, hx0b, hx0c⟩ := two_facts hx0
    obtain ⟨hx0f, hx0g⟩ := two_frozen hx0
    obtain ⟨hx1a, hx1b, hx1c⟩ := two_facts hx1
    obtain ⟨hx1f, hx1g⟩ := two_frozen hx1
    obtain ⟨hx2a, hx2b, hx2c⟩ := two_facts hx2
    obtain ⟨hx2f, hx2g⟩ := two_frozen hx2
    refine (hg _).mono ?_; rintro e w1 ⟨rfl, hb1⟩
    have hbw1 := nx hb0 hb1
    replace hx0 := heap_keep hb1 hx0
    replace hx1 := heap_keep hb1 hx1
    replace hx2 := heap_keep hb1 hx2
    clear hx0a hx0b hx0c hx0f hx0g
    obtain ⟨hx0a, hx0b, hx0c⟩ := two_facts hx0
    obtain ⟨hx0f, hx0g⟩ := two_frozen hx0
    clear hx1a hx1b hx1c hx1f hx1g
    obtain ⟨hx1a, hx1b, hx1c⟩ := two_facts hx1
    obtain ⟨hx1f, hx1g⟩ := two_frozen hx1
    clear hx2a hx2b hx2c hx2f hx2g
    obtain ⟨hx2a, hx2b, hx2c⟩ := two_facts hx2
    obtain ⟨hx2f, hx2g⟩ := two_frozen hx2
    clear hb1 hb0
    go_wp2_with fail
    obtain ⟨q1, q2⟩ := two_cells (set_two (.int .i64 0) (.int .i64 0) hx2)
    refine bodyPost_ret (v := .tuple #[.agg #[.int .i64 0, .int .i64 0], .bool false]) (by simp [q1, q2, results, Try.results41, go_sem]) rfl ⟨rfl, ?_⟩
    exact (hbw1.setCell (by show w.heap.size ≤ w.heap.size + 1 + 1; omega) _).setCell (by show w.heap.size ≤ w.heap.size + 1 + 1; omega) _
  | true =>
    rw [h] at hg
    cases k : isFr m e with
    | false =>
      rw [k] at hk
      rw [if_neg (by simp)]
      clear h k _l1 _u1 _l2 _u2 _l3 _u3 _l4 _u4
      go_enter Try.func41, Try.ntmps41
      go_wp2_with fail
      have hb0 : Below w.heap.size w (((w.alloc (.cells #[.int .i64 n, .int .i64 d] 25 (0, 0))).alloc (.cells #[.int .i64 m, .int .i64 e] 25 (0, 0))).alloc (.cells #[.int .i64 0, .int .i64 0] 25 (0, 0))) := nxAlloc (nxAlloc (nxAlloc (Below.refl _ _) _) _) _
      have hx0 := heap_keep (nxAlloc (Below.refl _ _) (.cells #[.int .i64 0, .int .i64 0] 25 (0, 0))) (heap_keep (nxAlloc (Below.refl _ _) (.cells #[.int .i64 m, .int .i64 e] 25 (0, 0))) (heap_alloc_at w (.cells #[.int .i64 n, .int .i64 d] 25 (0, 0))))
      have hx1 := heap_keep (nxAlloc (Below.refl _ _) (.cells #[.int .i64 0, .int .i64 0] 25 (0, 0))) (heap_alloc_at (w.alloc (.cells #[.int .i64 n, .int .i64 d] 25 (0, 0))) (.cells #[.int .i64 m, .int .i64 e] 25 (0, 0)))
      have hx2 := heap_alloc_at ((w.alloc (.cells #[.int .i64 n, .int .i64 d] 25 (0, 0))).alloc (.cells #[.int .i64 m, .int .i64 e] 25 (0, 0))) (.cells #[.int .i64 0, .int .i64 0] 25 (0, 0))
      generalize (((w.alloc (.cells #[.int .i64 n, .int .i64 d] 25 (0, 0))).alloc (.cells #[.int .i64 m, .int .i64 e] 25 (0, 0))).alloc (.cells #[.int .i64 0, .int .i64 0] 25 (0, 0))) = w0 at *
      have e1 : (w.alloc (.cells #[.int .i64 n, .int .i64 d] 25 (0, 0))).heap.size = w.heap.size + 1 := by simp
      rw [e1] at hx1
      clear e1
      have e2 : ((w.alloc (.cells #[.int .i64 n, .int .i64 d] 25 (0, 0))).alloc (.cells #[.int .i64 m, .int .i64 e] 25 (0, 0))).heap.size = w.heap.size + 1 + 1 := by simp
      rw [e2] at hx2
      clear e2
      obtain ⟨hx0a, hx0b, hx0c⟩ := two_facts hx0
      obtain ⟨hx0f, hx0g⟩ := two_frozen hx0
      obtain ⟨hx1a, hx1b, hx1c⟩ := two_facts hx1
      obtain ⟨hx1f, hx1g⟩ := two_frozen hx1
      obtain ⟨hx2a, hx2b, hx2c⟩ := two_facts hx2
      obtain ⟨hx2f, hx2g⟩ := two_frozen hx2
      refine (hg _).mono ?_; rintro e w1 ⟨rfl, hb1⟩
      have hbw1 := nx hb0 hb1
      replace hx0 := heap_keep hb1 hx0
      replace hx1 := heap_keep hb1 hx1
      replace hx2 := heap_keep hb1 hx2
      clear hx0a hx0b hx0c hx0f hx0g
      obtain ⟨hx0a, hx0b, hx0c⟩ := two_facts hx0
      obtain ⟨hx0f, hx0g⟩ := two_frozen hx0
      clear hx1a hx1b hx1c hx1f hx1g
      obtain ⟨hx1a, hx1b, hx1c⟩ := two_facts hx1
      obtain ⟨hx1f, hx1g⟩ := two_frozen hx1
      clear hx2a hx2b hx2c hx2f hx2g
      obtain ⟨hx2a, hx2b, hx2c⟩ := two_facts hx2
      obtain ⟨hx2f, hx2g⟩ := two_frozen hx2
      clear hb1 hb0
      go_wp2_with fail
      refine (hk _).mono ?_; rintro e w2 ⟨rfl, hb2⟩
      have hbw2 := nx hbw1 hb2
      replace hx0 := heap_keep hb2 hx0
      replace hx1 := heap_keep hb2 hx1
      replace hx2 := heap_keep hb2 hx2
      clear hx0a hx0b hx0c hx0f hx0g
      obtain ⟨hx0a, hx0b, hx0c⟩ := two_facts hx0
      obtain ⟨hx0f, hx0g⟩ := two_frozen hx0
      clear hx1a hx1b hx1c hx1f hx1g
      obtain ⟨hx1a, hx1b, hx1c⟩ := two_facts hx1
      obtain ⟨hx1f, hx1g⟩ := two_frozen hx1
      clear hx2a hx2b hx2c hx2f hx2g
      obtain ⟨hx2a, hx2b, hx2c⟩ := two_facts hx2
      obtain ⟨hx2f, hx2g⟩ := two_frozen hx2
      clear hb2 hbw1
      go_wp2_with fail
      obtain ⟨q1, q2⟩ := two_cells (set_two (.int .i64 0) (.int .i64 0) hx2)
      refine bodyPost_ret (v := .tuple #[.agg #[.int .i64 0, .int .i64 0], .bool false]) (by simp [q1, q2, results, Try.results41, go_sem]) rfl ⟨rfl, ?_⟩
      exact (hbw2.setCell (by show w.heap.size ≤ w.heap.size + 1 + 1; omega) _).setCell (by show w.heap.size ≤ w.heap.size + 1 + 1; omega) _
    | true =>
      rw [k] at hk
      rw [if_pos ⟨rfl, rfl⟩]
      clear _l1 _u1 _l2 _u2 _l3 _u3 _l4 _u4
      obtain ⟨n, d, rfl, rfl, n1, d1, d2⟩ := isFr_nats h
      obtain ⟨m, e, rfl, rfl, m1, e1, e2⟩ := isFr_nats k
      have hx := half_cross h k
      have p1 : n * e ≤ 1024 * 1024 := mul_bound (by omega) e2
      have p2 : m * d ≤ 1024 * 1024 := mul_bound (by omega) d2
      have p3 : 2 * d * e ≤ 2048 * 1024 := mul_bound (by omega) e2
      have p4 : 0 < 2 * d * e := Nat.mul_pos (by omega) (by omega)
      have hs := fun w => mpShort_any (n * e + m * d) (2 * d * e) w p4 (by omega) (by omega)
      rw [← frOf_even hx p4] at hs
      generalize (stepsOf n d + stepsOf m e) / 2 = v at *
      have hi := fun w => mpIf_any (frOf v).1 (frOf v).2 w
      rw [show (if isFr ((frOf v).1 : Int) ((frOf v).2 : Int) = true then some ((frOf v).1, (frOf v).2) else none) = frA v from rfl] at hi
      generalize (frOf v).1 = x1 at *
      generalize (frOf v).2 = x2 at *
      have i1 : (n : Int) * (e : Int) = ((n * e : Nat) : Int) := by simp
      have i2 : (m : Int) * (d : Int) = ((m * d : Nat) : Int) := by simp
      have i3 : 2 * (d : Int) * (e : Int) = ((2 * d * e : Nat) : Int) := by simp
      have hs' : ∀ w, Calls Try.prog 70 #[.int .i64 ((n : Int) * (e : Int) + (m : Int) * (d : Int)), .int .i64 (2 * (d : Int) * (e : Int))] w (Gives (.agg #[.int .i64 x1, .int .i64 x2]) w) := by
        intro w
        have := hs w
        rw [i1, i2, i3, ← Int.natCast_add]
        exact this
      have j1 : 0 ≤ (n : Int) * (e : Int) ∧ (n : Int) * (e : Int) ≤ 1048576 := by omega
      have j2 : 0 ≤ (m : Int) * (d : Int) ∧ (m : Int) * (d : Int) ≤ 1048576 := by omega
      have j3 : 0 ≤ 2 * (d : Int) * (e : Int) ∧ 2 * (d : Int) * (e : Int) ≤ 2097152 := by omega
      generalize hA : frA v = A at *
      unfold ansF at hi ⊢
      generalize fS1 A = y1 at *
      generalize fS2 A = y2 at *
      generalize A.isSome = ok at *
      clear hs i1 i2 i3 p1 p2 p3 p4 hA h k hx
      obtain ⟨j1a, j1b⟩ := j1
      obtain ⟨j2a, j2b⟩ := j2
      obtain ⟨j3a, j3b⟩ := j3
      go_enter Try.func41, Try.ntmps41
      go_wp2_with fail
      have hb0 : Below w.heap.size w (((w.alloc (.cells #[.int .i64 n, .int .i64 d] 25 (0, 0))).alloc (.cells #[.int .i64 m, .int .i64 e] 25 (0, 0))).alloc (.cells #[.int .i64 0, .int .i64 0] 25 (0, 0))) := nxAlloc (nxAlloc (nxAlloc (Below.refl _ _) _) _) _
      have hx0 := heap_keep (nxAlloc (Below.refl _ _) (.cells #[.int .i64 0, .int .i64 0] 25 (0, 0))) (heap_keep (nxAlloc (Below.refl _ _) (.cells #[.int .i64 m, .int .i64 e] 25 (0, 0))) (heap_alloc_at w (.cells #[.int .i64 n, .int .i64 d] 25 (0, 0))))
      have hx1 := heap_keep (nxAlloc (Below.refl _ _) (.cells #[.int .i64 0, .int .i64 0] 25 (0, 0))) (heap_alloc_at (w.alloc (.cells #[.int .i64 n, .int .i64 d] 25 (0, 0))) (.cells #[.int .i64 m, .int .i64 e] 25 (0, 0)))
      have hx2 := heap_alloc_at ((w.alloc (.cells #[.int .i64 n, .int .i64 d] 25 (0, 0))).alloc (.cells #[.int .i64 m, .int .i64 e] 25 (0, 0))) (.cells #[.int .i64 0, .int .i64 0] 25 (0, 0))
      generalize (((w.alloc (.cells #[.int .i64 n, .int .i64 d] 25 (0, 0))).alloc (.cells #[.int .i64 m, .int .i64 e] 25 (0, 0))).alloc (.cells #[.int .i64 0, .int .i64 0] 25 (0, 0))) = w0 at *
      have e1 : (w.alloc (.cells #[.int .i64 n, .int .i64 d] 25 (0, 0))).heap.size = w.heap.size + 1 := by simp
      rw [e1] at hx1
      clear e1
      have e2 : ((w.alloc (.cells #[.int .i64 n, .int .i64 d] 25 (0, 0))).alloc (.cells #[.int .i64 m, .int .i64 e] 25 (0, 0))).heap.size = w.heap.size + 1 + 1 := by simp
      rw [e2] at hx2
      clear e2
      obtain ⟨hx0a, hx0b, hx0c⟩ := two_facts hx0
      obtain ⟨hx0f, hx0g⟩ := two_frozen hx0
      obtain ⟨hx1a, hx1b, hx1c⟩ := two_facts hx1
      obtain ⟨hx1f, hx1g⟩ := two_frozen hx1
      obtain ⟨hx2a, hx2b, hx2c⟩ := two_facts hx2
      obtain ⟨hx2f, hx2g⟩ := two_frozen hx2
      refine (hg _).mono ?_; rintro e w1 ⟨rfl, hb1⟩
      have hbw1 := nx hb0 hb1
      replace hx0 := heap_keep hb1 hx0
      replace hx1 := heap_keep hb1 hx1
      replace hx2 := heap_keep hb1 hx2
      clear hx0a hx0b hx0c hx0f hx0g
      obtain ⟨hx0a, hx0b, hx0c⟩ := two_facts hx0
      obtain ⟨hx0f, hx0g⟩ := two_frozen hx0
      clear hx1a hx1b hx1c hx1f hx1g
      obtain ⟨hx1a, hx1b, hx1c⟩ := two_facts hx1
      obtain ⟨hx1f, hx1g⟩ := two_frozen hx1
      clear hx2a hx2b hx2c hx2f hx2g
      obtain ⟨hx2a, hx2b, hx2c⟩ := two_facts hx2
      obtain ⟨hx2f, hx2g⟩ := two_frozen hx2
      clear hb1 hb0
      go_wp2_with fail
      refine (hk _).mono ?_; rintro e w2 ⟨rfl, hb2⟩
      have hbw2 := nx hbw1 hb2
      replace hx0 := heap_keep hb2 hx0
      replace hx1 := heap_keep hb2 hx1
      replace hx2 := heap_keep hb2 hx2
      clear hx0a hx0b hx0c hx0f hx0g
      obtain ⟨hx0a, hx0b, hx0c⟩ := two_facts hx0
      obtain ⟨hx0f, hx0g⟩ := two_frozen hx0
      clear hx1a hx1b hx1c hx1f hx1g
      obtain ⟨hx1a, hx1b, hx1c⟩ := two_facts hx1
      obtain ⟨hx1f, hx1g⟩ := two_frozen hx1
      clear hx2a hx2b hx2c hx2f hx2g
      obtain ⟨hx2a, hx2b, hx2c⟩ := two_facts hx2
      obtain ⟨hx2f, hx2g⟩ := two_frozen hx2
      clear hb2 hbw1
      go_wp2_with fail
      refine (hs' _).mono ?_; rintro e w3 ⟨rfl, hb3⟩
      have hbw3 := nx hbw2 hb3
      replace hx0 := heap_keep hb3 hx0
      replace hx1 := heap_keep hb3 hx1
      replace hx2 := heap_keep hb3 hx2
      clear hx0a hx0b hx0c hx0f hx0g
      obtain ⟨hx0a, hx0b, hx0c⟩ := two_facts hx0
      obtain ⟨hx0f, hx0g⟩ := two_frozen hx0
      clear hx1a hx1b hx1c hx1f hx1g
      obtain ⟨hx1a, hx1b, hx1c⟩ := two_facts hx1
      obtain ⟨hx1f, hx1g⟩ := two_frozen hx1
      clear hx2a hx2b hx2c hx2f hx2g
      obtain ⟨hx2a, hx2b, hx2c⟩ := two_facts hx2
      obtain ⟨hx2f, hx2g⟩ := two_frozen hx2
      clear hb3 hbw2
      go_wp2_with fail
      refine (hi _).mono ?_; rintro e w4 ⟨rfl, hb4⟩
      have hbw4 := nx hbw3 hb4
      replace hx0 := heap_keep hb4 hx0
      replace hx1 := heap_keep hb4 hx1
      replace hx2 := heap_keep hb4 hx2
      clear hx0a hx0b hx0c hx0f hx0g
      obtain ⟨hx0a, hx0b, hx0c⟩ := two_facts hx0
      obtain ⟨hx0f, hx0g⟩ := two_frozen hx0
      clear hx1a hx1b hx1c hx1f hx1g
      obtain ⟨hx1a, hx1b, hx1c⟩ := two_facts hx1
      obtain ⟨hx1f, hx1g⟩ := two_frozen hx1
      clear hx2a hx2b hx2c hx2f hx2g
      obtain ⟨hx2a, hx2b, hx2c⟩ := two_facts hx2
      obtain ⟨hx2f, hx2g⟩ := two_frozen hx2
      clear hb4 hbw3
      go_wp2_with fail
      obtain ⟨q1, q2⟩ := two_cells (set_two (.int .i64 y1) (.int .i64 y2) hx2)
      refine bodyPost_ret (v := .tuple #[.agg #[.int .i64 y1, .int .i64 y2], .bool ok]) (by simp [q1, q2, results, Try.results41, go_sem]) rfl ⟨rfl, ?_⟩
      exact (hbw4.setCell (by show w.heap.size ≤ w.heap.size + 1 + 1; omega) _).setCell (by show w.heap.size ≤ w.heap.size + 1 + 1; omega) _
end Go.Proofs.Ytbmegkphmifokaa
