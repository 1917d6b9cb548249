/- Walks: spec.mpShort, HalfOf. -/
import Derived.Test.YtdhjchibhlcchaaDoorFr1
import Derived.Test.YtdhjchibhlcchaaDoorFrQ
import Derived.Test.YtdhjchibhlcchaaDoorRegT
namespace Go.Proofs.YtdhjchibhlcchaaDoor
open Go.RowKit

theorem wrap_div {n g : Nat} (h : (n : Int) ≤ 4611686018427387904) : IntKind.i64.wrap ((n : Int) / (g : Int)) = ((n / g : Nat) : Int) := by
  have h1 := Nat.div_le_self n g
  rw [← Int.natCast_ediv]
  generalize n / g = x at *
  rw [IntKind.wrap_i64] <;> omega
set_option maxHeartbeats 1000000 in
theorem mpShort_any (n d : Nat) (w : World) (hd : 0 < d) (hn2 : (n : Int) ≤ 4611686018427387904) (hd2 : (d : Int) ≤ 4611686018427387904) :
    Calls Tryd.prog 33 #[.int .i64 n, .int .i64 d] w (Gives (.agg #[.int .i64 (shortN n d).1, .int .i64 (shortN n d).2]) w) := by
  have hg := fun w => mpGcd_any n d w (by omega) (by omega)
  have g0 : 0 < Nat.gcd n d := Nat.gcd_pos_of_pos_right _ hd
  unfold shortN
  dsimp only
  generalize Nat.gcd n d = g at *
  have hg0 : ((g : Int) == 0) = false := by rw [beq_eq_false_iff_ne]; omega
  have q1 := wrap_div (g := g) hn2
  have q2 := wrap_div (g := g) hd2
  generalize n / g = x1 at *
  generalize d / g = x2 at *
  have HQ1 := Lib.hid q1
  have HQ2 := Lib.hid q2
  clear q1 q2
  go_enter Tryd.func33, Tryd.ntmps33
  go_wp2_with fail
  have hb0 : Below w.heap.size w (w.alloc (.cells #[.int .i64 0, .int .i64 0] 23 (0, 0))) := nxAlloc (Below.refl _ _) _
  have hx0 := heap_alloc_at w (.cells #[.int .i64 0, .int .i64 0] 23 (0, 0))
  generalize (w.alloc (.cells #[.int .i64 0, .int .i64 0] 23 (0, 0))) = w0 at *
  obtain ⟨hx0a, hx0b, hx0c⟩ := two_facts hx0
  obtain ⟨hx0f, hx0g⟩ := two_frozen hx0
  refine (hg _).mono ?_; rintro e w1 ⟨rfl, hb1⟩
  have hbw1 := nx hb0 hb1
  replace hx0 := heap_keep hb1 hx0
  clear hx0a hx0b hx0c hx0f hx0g
  obtain ⟨hx0a, hx0b, hx0c⟩ := two_facts hx0
  obtain ⟨hx0f, hx0g⟩ := two_frozen hx0
  clear hb1 hb0
  go_wp2_with fail
  refine wp_region_clsT 7 (by kernel_rfl) (by kernel_rfl) ?_
  simp only [List.take_succ_cons, List.take_zero, List.drop_succ_cons, List.drop_zero]
  repeat (
    refine wpQuiet_step (fun K hK => ?_)
    go_simp
    first
      | (refine hK _ ?_; clear hK K)
      | (refine ⟨_, fun _ _ => rfl, hK _ ?_⟩; clear hK K)
      | (apply Exists.intro
         refine ⟨fun w' hw' => ?_, hK _ ?_⟩
         · first
             | (rw [if_neg (by omega), HQ1.out]; exact ⟨rfl, rfl⟩)
             | (rw [if_neg (by omega), HQ2.out]; exact ⟨rfl, rfl⟩)
         clear hK K))
  refine wpQuiet_nil ?_
  intro w' hw'
  have hbwf := nx hbw1 hw'
  replace hx0 := heap_keep hw' hx0
  clear hw' hbw1
  clear hx0a hx0b hx0c hx0f hx0g
  obtain ⟨hx0a, hx0b, hx0c⟩ := two_facts hx0
  obtain ⟨hx0f, hx0g⟩ := two_frozen hx0
  go_wp2_with fail
  obtain ⟨q1, q2⟩ := two_cells (set_two (.int .i64 x1) (.int .i64 x2) hx0)
  refine bodyPost_ret (v := .agg #[.int .i64 x1, .int .i64 x2]) (by simp [q1, q2, results, Tryd.results33, go_sem]) rfl ⟨rfl, ?_⟩
  exact (hbwf.setCell (by show w.heap.size ≤ w.heap.size; omega) _).setCell (by show w.heap.size ≤ w.heap.size; omega) _

/-- The half of a sum of two fractions. -/
def halfO (n d m e : Int) : Option (Nat × Nat) := if isFr n d = true ∧ isFr m e = true then frA ((stepsOf n d + stepsOf m e) / 2) else none
theorem isFr_nats {n d : Int} (h : isFr n d = true) : ∃ a b : Nat, n = a ∧ d = b ∧ a ≤ b ∧ 1 ≤ b ∧ b ≤ 1024 := by
  obtain ⟨h1, h2, h3, h4⟩ := isFr_iff.1 h
  have := isP2_bounds h1
  exact ⟨n.toNat, d.toNat, by omega, by omega, by omega, by omega, by omega⟩
theorem mul_bound {a b : Nat} {x y : Nat} (h : a ≤ x) (k : b ≤ y) : a * b ≤ x * y := Nat.mul_le_mul h k

end Go.Proofs.YtdhjchibhlcchaaDoor
