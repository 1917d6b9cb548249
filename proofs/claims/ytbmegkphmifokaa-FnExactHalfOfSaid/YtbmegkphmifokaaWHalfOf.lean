/- The walk of laws.FnExactHalfOf. -/
import Derived.Test.YtbmegkphmifokaaFr4
import Derived.Test.YtbmegkphmifokaaFr2
import Derived.Test.YtbmegkphmifokaaRegF
namespace Go.Proofs.Ytbmegkphmifokaa
open Go.RowKit

set_option maxRecDepth 100000 in
set_option maxHeartbeats 2000000 in
theorem implHalfOf_any (n d m e : Int) (w : World) (_l1 : -9223372036854775808 ≤ n) (_u1 : n ≤ 9223372036854775807) (_l2 : -9223372036854775808 ≤ d) (_u2 : d ≤ 9223372036854775807) (_l3 : -9223372036854775808 ≤ m) (_u3 : m ≤ 9223372036854775807) (_l4 : -9223372036854775808 ≤ e) (_u4 : e ≤ 9223372036854775807) :
    Calls Try.prog 42 #[.agg #[.int .i64 n, .int .i64 d], .agg #[.int .i64 m, .int .i64 e]] w (Gives (ansF (halfO n d m e)) w) := by
  unfold halfO
  have hg := fun w => isFraction_any n d w
  have hk := fun w => isFraction_any m e w
  cases h : isFr n d with
  | false =>
    rw [h] at hg
    rw [if_neg (by simp)]
    clear h hk _l1 _u1 _l2 _u2 _l3 _u3 _l4 _u4
    go_enter Try.func42, Try.ntmps42
    go_wp2_with fail
    have hb0 : Below w.heap.size w (((w.alloc (.cells #[.int .i64 n, .int .i64 d] 25 (0, 0))).alloc (.cells #[.int .i64 m, .int .i64 e] 25 (0, 0))).alloc (.cells #[.int .i64 0, .int .i64 0] 25 (0, 0))) := nxAlloc (nxAlloc (nxAlloc (Below.refl _ _) _) _) _
    have hx0 := heap_keep (nxAlloc (Below.refl _ _) (.cells #[.int .i64 0, .int .i64 0] 25 (0, 0))) (heap_keep (nxAlloc (Below.refl _ _) (.cells #[.int .i64 m, .int .i64 e] 25 (0, 0))) (heap_alloc_at w (.cells #[.int .i64 n, .int .i64 d] 25 (0, 0))))
    have hx1 := heap_keep (nxAlloc (Below.refl _ _) (.cells #[.int .i64 0, .int .i64 0] 25 (0, 0))) (heap_alloc_at (w.alloc (.cells #[.int .i64 n, .int .i64 d] 25 (0, 0))) (.cells #[.int .i64 m, .int .i64 e] 25 (0, 0)))
    have hx2 := heap_alloc_at ((w.alloc (.cells #[.int .i64 n, .int .i64 d] 25 (0, 0))).alloc (.cells #[.int .i64 m, .int .i64 e] 25 (0, 0))) (.cells #[.int .i64 0, .int .i64 0] 25 (0, 0))
    generalize (((w.alloc (.cells #[.int .i64 n, .int .i64 d] 25 (0, 0))).alloc (.cells #[.int .i64 m, .int .i64 e] 25 (0, 0))).alloc (.cells #[.int .i64 0, .int .i64 0] 25 (0, 0))) = w0 at *
    have e1 : (w.alloc (.cells #[.int .i64 n, .int .i64 d] 25 (0, 0))).heap.size = w.heap.size + 1 := by simp
    rw [e1] at hx1
    clear e1
    have e2 : ((w.alloc (.cells #[.int .i64 n, .int .i64 d] 25 (0, 0))).alloc (.cells #[.int .i64 m, .int .i64 e] 25 (0, 0))).heap.size = w.heap.size + 1 + 1 := by simp
    rw [e2] at hx2
    clear e2
    obtain ⟨hx0a, hx0b, hx0c⟩ := two_facts hx0
    obtain ⟨hx0f, hx0g⟩ := two_frozen hx0
    obtain ⟨hx1a, hx1b, hx1c⟩ := two_facts hx1
    obtain ⟨hx1f, hx1g⟩ := two_frozen hx1
    obtain ⟨hx2a, hx2b, hx2c⟩ := two_facts hx2
    obtain ⟨hx2f, hx2g⟩ := two_frozen hx2
    refine (hg _).mono ?_; rintro e w1 ⟨rfl, hb1⟩
    have hbw1 := nx hb0 hb1
    replace hx0 := heap_keep hb1 hx0
    replace hx1 := heap_keep hb1 hx1
    replace hx2 := heap_keep hb1 hx2
    clear hx0a hx0b hx0c hx0f hx0g
    obtain ⟨hx0a, hx0b, hx0c⟩ := two_facts hx0
    obtain ⟨hx0f, hx0g⟩ := two_frozen hx0
    clear hx1a hx1b hx1c hx1f hx1g
    obtain ⟨hx1a, hx1b, hx1c⟩ := two_facts hx1
    obtain ⟨hx1f, hx1g⟩ := two_frozen hx1
    clear hx2a hx2b hx2c hx2f hx2g
    obtain ⟨hx2a, hx2b, hx2c⟩ := two_facts hx2
    obtain ⟨hx2f, hx2g⟩ := two_frozen hx2
    clear hb1 hb0
    go_wp2_with fail
    obtain ⟨q1, q2⟩ := two_cells (set_two (.int .i64 0) (.int .i64 0) hx2)
    refine bodyPost_ret (v := .tuple #[.agg #[.int .i64 0, .int .i64 0], .bool false]) (by simp [q1, q2, results, Try.results42, go_sem]) rfl ⟨rfl, ?_⟩
    exact (hbw1.setCell (by show w.heap.size ≤ w.heap.size + 1 + 1; omega) _).setCell (by show w.heap.size ≤ w.heap.size + 1 + 1; omega) _
  | true =>
    rw [h] at hg
    cases k : isFr m e with
    | false =>
      rw [k] at hk
      rw [if_neg (by simp)]
      clear h k _l1 _u1 _l2 _u2 _l3 _u3 _l4 _u4
      go_enter Try.func42, Try.ntmps42
      go_wp2_with fail
      have hb0 : Below w.heap.size w (((w.alloc (.cells #[.int .i64 n, .int .i64 d] 25 (0, 0))).alloc (.cells #[.int .i64 m, .int .i64 e] 25 (0, 0))).alloc (.cells #[.int .i64 0, .int .i64 0] 25 (0, 0))) := nxAlloc (nxAlloc (nxAlloc (Below.refl _ _) _) _) _
      have hx0 := heap_keep (nxAlloc (Below.refl _ _) (.cells #[.int .i64 0, .int .i64 0] 25 (0, 0))) (heap_keep (nxAlloc (Below.refl _ _) (.cells #[.int .i64 m, .int .i64 e] 25 (0, 0))) (heap_alloc_at w (.cells #[.int .i64 n, .int .i64 d] 25 (0, 0))))
      have hx1 := heap_keep (nxAlloc (Below.refl _ _) (.cells #[.int .i64 0, .int .i64 0] 25 (0, 0))) (heap_alloc_at (w.alloc (.cells #[.int .i64 n, .int .i64 d] 25 (0, 0))) (.cells #[.int .i64 m, .int .i64 e] 25 (0, 0)))
      have hx2 := heap_alloc_at ((w.alloc (.cells #[.int .i64 n, .int .i64 d] 25 (0, 0))).alloc (.cells #[.int .i64 m, .int .i64 e] 25 (0, 0))) (.cells #[.int .i64 0, .int .i64 0] 25 (0, 0))
      generalize (((w.alloc (.cells #[.int .i64 n, .int .i64 d] 25 (0, 0))).alloc (.cells #[.int .i64 m, .int .i64 e] 25 (0, 0))).alloc (.cells #[.int .i64 0, .int .i64 0] 25 (0, 0))) = w0 at *
      have e1 : (w.alloc (.cells #[.int .i64 n, .int .i64 d] 25 (0, 0))).heap.size = w.heap.size + 1 := by simp
      rw [e1] at hx1
      clear e1
      have e2 : ((w.alloc (.cells #[.int .i64 n, .int .i64 d] 25 (0, 0))).alloc (.cells #[.int .i64 m, .int .i64 e] 25 (0, 0))).heap.size = w.heap.size + 1 + 1 := by simp
      rw [e2] at hx2
      clear e2
      obtain ⟨hx0a, hx0b, hx0c⟩ := two_facts hx0
      obtain ⟨hx0f, hx0g⟩ := two_frozen hx0
      obtain ⟨hx1a, hx1b, hx1c⟩ := two_facts hx1
      obtain ⟨hx1f, hx1g⟩ := two_frozen hx1
      obtain ⟨hx2a, hx2b, hx2c⟩ := two_facts hx2
      obtain ⟨hx2f, hx2g⟩ := two_frozen hx2
      refine (hg _).mono ?_; rintro e w1 ⟨rfl, hb1⟩
      have hbw1 := nx hb0 hb1
      replace hx0 := heap_keep hb1 hx0
      replace hx1 := heap_keep hb1 hx1
      replace hx2 := heap_keep hb1 hx2
      clear hx0a hx0b hx0c hx0f hx0g
      obtain ⟨hx0a, hx0b, hx0c⟩ := two_facts hx0
      obtain ⟨hx0f, hx0g⟩ := two_frozen hx0
      clear hx1a hx1b hx1c hx1f hx1g
      obtain ⟨hx1a, hx1b, hx1c⟩ := two_facts hx1
      obtain ⟨hx1f, hx1g⟩ := two_frozen hx1
      clear hx2a hx2b hx2c hx2f hx2g
      obtain ⟨hx2a, hx2b, hx2c⟩ := two_facts hx2
      obtain ⟨hx2f, hx2g⟩ := two_frozen hx2
      clear hb1 hb0
      go_wp2_with fail
      refine (hk _).mono ?_; rintro e w2 ⟨rfl, hb2⟩
      have hbw2 := nx hbw1 hb2
      replace hx0 := heap_keep hb2 hx0
      replace hx1 := heap_keep hb2 hx1
      replace hx2 := heap_keep hb2 hx2
      clear hx0a hx0b hx0c hx0f hx0g
      obtain ⟨hx0a, hx0b, hx0c⟩ := two_facts hx0
      obtain ⟨hx0f, hx0g⟩ := two_frozen hx0
      clear hx1a hx1b hx1c hx1f hx1g
      obtain ⟨hx1a, hx1b, hx1c⟩ := two_facts hx1
      obtain ⟨hx1f, hx1g⟩ := two_frozen hx1
      clear hx2a hx2b hx2c hx2f hx2g
      obtain ⟨hx2a, hx2b, hx2c⟩ := two_facts hx2
      obtain ⟨hx2f, hx2g⟩ := two_frozen hx2
      clear hb2 hbw1
      go_wp2_with fail
      obtain ⟨q1, q2⟩ := two_cells (set_two (.int .i64 0) (.int .i64 0) hx2)
      refine bodyPost_ret (v := .tuple #[.agg #[.int .i64 0, .int .i64 0], .bool false]) (by simp [q1, q2, results, Try.results42, go_sem]) rfl ⟨rfl, ?_⟩
      exact (hbw2.setCell (by show w.heap.size ≤ w.heap.size + 1 + 1; omega) _).setCell (by show w.heap.size ≤ w.heap.size + 1 + 1; omega) _
    | true =>
      rw [k] at hk
      rw [if_pos ⟨rfl, rfl⟩]
      clear _l1 _u1 _l2 _u2 _l3 _u3 _l4 _u4
      obtain ⟨n, d, rfl, rfl, n1, d1, d2⟩ := isFr_nats h
      obtain ⟨m, e, rfl, rfl, m1, e1, e2⟩ := isFr_nats k
      have s1 := fun w => steps_any n d w h
      have s2 := fun w => steps_any m e w k
      have b1 := (steps_le h).1
      have b2 := (steps_le k).1
      have hq := fun w => fractionAt_any ((stepsOf n d + stepsOf m e) / 2) w (by omega)
      generalize stepsOf n d = s at *
      generalize stepsOf m e = t at *
      have i1 : IntKind.i64.wrap ((s : Int) + (t : Int)) = (s : Int) + (t : Int) := by rw [IntKind.wrap_i64] <;> omega
      have hq' : ∀ w, Calls Try.prog 59 #[.int .i64 (IntKind.i64.wrap (((s : Int) + (t : Int)).tdiv 2))] w (Gives (ansF (frA ((s + t) / 2))) w) := by
        intro w
        have := hq w
        rw [show (((s + t) / 2 : Nat) : Int) = IntKind.i64.wrap (((s : Int) + (t : Int)).tdiv 2) by rw [Int.tdiv_eq_ediv_of_nonneg (by omega), IntKind.wrap_i64] <;> omega] at this
        exact this
      clear hq
      generalize frA ((s + t) / 2) = A at *
      unfold ansF at hq' ⊢
      generalize fS1 A = y1 at *
      generalize fS2 A = y2 at *
      generalize A.isSome = ok at *
      clear h k
      go_enter Try.func42, Try.ntmps42
      go_wp2_with fail
      have hb0 : Below w.heap.size w (((w.alloc (.cells #[.int .i64 n, .int .i64 d] 25 (0, 0))).alloc (.cells #[.int .i64 m, .int .i64 e] 25 (0, 0))).alloc (.cells #[.int .i64 0, .int .i64 0] 25 (0, 0))) := nxAlloc (nxAlloc (nxAlloc (Below.refl _ _) _) _) _
      have hx0 := heap_keep (nxAlloc (Below.refl _ _) (.cells #[.int .i64 0, .int .i64 0] 25 (0, 0))) (heap_keep (nxAlloc (Below.refl _ _) (.cells #[.int .i64 m, .int .i64 e] 25 (0, 0))) (heap_alloc_at w (.cells #[.int .i64 n, .int .i64 d] 25 (0, 0))))
      have hx1 := heap_keep (nxAlloc (Below.refl _ _) (.cells #[.int .i64 0, .int .i64 0] 25 (0, 0))) (heap_alloc_at (w.alloc (.cells #[.int .i64 n, .int .i64 d] 25 (0, 0))) (.cells #[.int .i64 m, .int .i64 e] 25 (0, 0)))
      have hx2 := heap_alloc_at ((w.alloc (.cells #[.int .i64 n, .int .i64 d] 25 (0, 0))).alloc (.cells #[.int .i64 m, .int .i64 e] 25 (0, 0))) (.cells #[.int .i64 0, .int .i64 0] 25 (0, 0))
      generalize (((w.alloc (.cells #[.int .i64 n, .int .i64 d] 25 (0, 0))).alloc (.cells #[.int .i64 m, .int .i64 e] 25 (0, 0))).alloc (.cells #[.int .i64 0, .int .i64 0] 25 (0, 0))) = w0 at *
      have e1 : (w.alloc (.cells #[.int .i64 n, .int .i64 d] 25 (0, 0))).heap.size = w.heap.size + 1 := by simp
      rw [e1] at hx1
      clear e1
      have e2 : ((w.alloc (.cells #[.int .i64 n, .int .i64 d] 25 (0, 0))).alloc (.cells #[.int .i64 m, .int .i64 e] 25 (0, 0))).heap.size = w.heap.size + 1 + 1 := by simp
      rw [e2] at hx2
      clear e2
      obtain ⟨hx0a, hx0b, hx0c⟩ := two_facts hx0
      obtain ⟨hx0f, hx0g⟩ := two_frozen hx0
      obtain ⟨hx1a, hx1b, hx1c⟩ := two_facts hx1
      obtain ⟨hx1f, hx1g⟩ := two_frozen hx1
      obtain ⟨hx2a, hx2b, hx2c⟩ := two_facts hx2
      obtain ⟨hx2f, hx2g⟩ := two_frozen hx2
      refine (hg _).mono ?_; rintro e w1 ⟨rfl, hb1⟩
      have hbw1 := nx hb0 hb1
      replace hx0 := heap_keep hb1 hx0
      replace hx1 := heap_keep hb1 hx1
      replace hx2 := heap_keep hb1 hx2
      clear hx0a hx0b hx0c hx0f hx0g
      obtain ⟨hx0a, hx0b, hx0c⟩ := two_facts hx0
      obtain ⟨hx0f, hx0g⟩ := two_frozen hx0
      clear hx1a hx1b hx1c hx1f hx1g
      obtain ⟨hx1a, hx1b, hx1c⟩ := two_facts hx1
      obtain ⟨hx1f, hx1g⟩ := two_frozen hx1
      clear hx2a hx2b hx2c hx2f hx2g
      obtain ⟨hx2a, hx2b, hx2c⟩ := two_facts hx2
      obtain ⟨hx2f, hx2g⟩ := two_frozen hx2
      clear hb1 hb0
      go_wp2_with fail
      refine (hk _).mono ?_; rintro e w2 ⟨rfl, hb2⟩
      have hbw2 := nx hbw1 hb2
      replace hx0 := heap_keep hb2 hx0
      replace hx1 := heap_keep hb2 hx1
      replace hx2 := heap_keep hb2 hx2
      clear hx0a hx0b hx0c hx0f hx0g
      obtain ⟨hx0a, hx0b, hx0c⟩ := two_facts hx0
      obtain ⟨hx0f, hx0g⟩ := two_frozen hx0
      clear hx1a hx1b hx1c hx1f hx1g
      obtain ⟨hx1a, hx1b, hx1c⟩ := two_facts hx1
      obtain ⟨hx1f, hx1g⟩ := two_frozen hx1
      clear hx2a hx2b hx2c hx2f hx2g
      obtain ⟨hx2a, hx2b, hx2c⟩ := two_facts hx2
      obtain ⟨hx2f, hx2g⟩ := two_frozen hx2
      clear hb2 hbw1
      go_wp2_with fail
      refine wp_region_clsT 9 (by kernel_rfl) (by kernel_rfl) ?_
      simp only [List.take_succ_cons, List.take_zero, List.drop_succ_cons, List.drop_zero]
      repeat (
        refine wpQuiet_step (fun K hK => ?_)
        go_simp
        first
          | (refine hK _ ?_; clear hK K)
          | (refine ⟨_, fun _ _ => rfl, hK _ ?_⟩; clear hK K)
          | (apply Exists.intro
             refine ⟨fun w' hw' => ?_, hK _ ?_⟩
             · first
                 | (go_at_call 47; first | (with_reducible exact hw'.call (s1 _)) | (with_reducible exact hw'.call (s2 _)))
                 | (go_at_call 59; first | (with_reducible exact hw'.call (hq' _)) | (with_reducible exact hw'.call (hq' _)))
                 | (rw [hw'.cell hx0c hx0a]; dsimp only [Result.andThen]; rw [hw'.cell hx0c hx0b]; exact ⟨rfl, rfl⟩)
                 | (rw [hw'.cell hx1c hx1a]; dsimp only [Result.andThen]; rw [hw'.cell hx1c hx1b]; exact ⟨rfl, rfl⟩)
             clear hK K))
      refine wpQuiet_nil ?_
      intro w' hw'
      have hbwf := nx hbw2 hw'
      replace hx0 := heap_keep hw' hx0
      replace hx1 := heap_keep hw' hx1
      replace hx2 := heap_keep hw' hx2
      clear hw' hbw2
      clear hx0a hx0b hx0c hx0f hx0g
      obtain ⟨hx0a, hx0b, hx0c⟩ := two_facts hx0
      obtain ⟨hx0f, hx0g⟩ := two_frozen hx0
      clear hx1a hx1b hx1c hx1f hx1g
      obtain ⟨hx1a, hx1b, hx1c⟩ := two_facts hx1
      obtain ⟨hx1f, hx1g⟩ := two_frozen hx1
      clear hx2a hx2b hx2c hx2f hx2g
      obtain ⟨hx2a, hx2b, hx2c⟩ := two_facts hx2
      obtain ⟨hx2f, hx2g⟩ := two_frozen hx2
      go_wp2_with fail
      obtain ⟨q1, q2⟩ := two_cells (set_two (.int .i64 y1) (.int .i64 y2) hx2)
      refine bodyPost_ret (v := .tuple #[.agg #[.int .i64 y1, .int .i64 y2], .bool ok]) (by simp [q1, q2, results, Try.results42, go_sem]) rfl ⟨rfl, ?_⟩
      exact (hbwf.setCell (by show w.heap.size ≤ w.heap.size + 1 + 1; omega) _).setCell (by show w.heap.size ≤ w.heap.size + 1 + 1; omega) _

set_option maxRecDepth 100000 in
set_option maxHeartbeats 1000000 in
theorem fnExactHalfOf_walk (n0 : Int) (hn0 : (Lit.int .i64 n0).wf = true) (d0 : Int) (hd0 : (Lit.int .i64 d0).wf = true) (n1 : Int) (hn1 : (Lit.int .i64 n1).wf = true) (d1 : Int) (hd1 : (Lit.int .i64 d1).wf = true) (w : World) :
    Calls Try.prog 12 #[.agg #[.int .i64 n0, .int .i64 d0], .agg #[.int .i64 n1, .int .i64 d1]] w fun e w' => e = .returned (.bool true) ∧ Below w.heap.size w w' := by
  obtain ⟨lon0, hin0⟩ := i64_bounds hn0
  obtain ⟨lod0, hid0⟩ := i64_bounds hd0
  obtain ⟨lon1, hin1⟩ := i64_bounds hn1
  obtain ⟨lod1, hid1⟩ := i64_bounds hd1
  have hS := fun w => specHalfOf_any n0 d0 n1 d1 w lon0 hin0 lod0 hid0 lon1 hin1 lod1 hid1
  have hI := fun w => implHalfOf_any n0 d0 n1 d1 w lon0 hin0 lod0 hid0 lon1 hin1 lod1 hid1
  have hS' : ∀ w, Calls Try.prog 41 #[.agg #[.int .i64 n0, .int .i64 d0], .agg #[.int .i64 n1, .int .i64 d1]] w (Gives (ansF (halfO n0 d0 n1 d1)) w) := hS
  have hI' : ∀ w, Calls Try.prog 42 #[.agg #[.int .i64 n0, .int .i64 d0], .agg #[.int .i64 n1, .int .i64 d1]] w (Gives (ansF (halfO n0 d0 n1 d1)) w) := hI
  clear hS hI
  generalize (halfO n0 d0 n1 d1) = o at hS' hI'
  unfold ansF at hS' hI'
  generalize fS1 o = A at hS' hI'
  generalize fS2 o = B at hS' hI'
  generalize o.isSome = ok at hS' hI'
  clear o
  go_enter Try.func12, Try.ntmps12
  go_wp2_with fail
  have hb0 : Below w.heap.size w ((w.alloc (.cells #[.int .i64 n0, .int .i64 d0] 23 (0, 0))).alloc (.cells #[.int .i64 n1, .int .i64 d1] 23 (0, 0))) := nxAlloc (nxAlloc (Below.refl _ _) _) _
  have hx0 := heap_keep (nxAlloc (Below.refl _ _) (.cells #[.int .i64 n1, .int .i64 d1] 23 (0, 0))) (heap_alloc_at w (.cells #[.int .i64 n0, .int .i64 d0] 23 (0, 0)))
  have hx1 := heap_alloc_at (w.alloc (.cells #[.int .i64 n0, .int .i64 d0] 23 (0, 0))) (.cells #[.int .i64 n1, .int .i64 d1] 23 (0, 0))
  generalize ((w.alloc (.cells #[.int .i64 n0, .int .i64 d0] 23 (0, 0))).alloc (.cells #[.int .i64 n1, .int .i64 d1] 23 (0, 0))) = w0 at *
  have e1 : (w.alloc (.cells #[.int .i64 n0, .int .i64 d0] 23 (0, 0))).heap.size = w.heap.size + 1 := by simp
  rw [e1] at hx1
  clear e1
  obtain ⟨ka0, kb0, kc0⟩ := two_facts hx0
  obtain ⟨ka1, kb1, kc1⟩ := two_facts hx1
  refine wp_region_floatP 6 8 #[true, true, true, true, true, true, false, false, false, false, false] _ (.cells #[.int .i64 0, .int .i64 0] 25 (0, 0)) (by kernel_rfl) (by kernel_rfl) rfl (fun _ => rfl) (fun _ _ => rfl) ?_
  simp only [List.take_succ_cons, List.take_zero, List.drop_succ_cons, List.drop_zero, Nat.reduceSub]
  repeat (
    refine wpQuietR_step (fun K hK => ?_)
    go_simp
    first
      | (refine hK _ ?_; clear hK K)
      | (refine ⟨_, fun _ _ => rfl, hK _ ?_⟩; clear hK K)
      | (apply Exists.intro
         refine ⟨fun w' hw' => ?_, hK _ ?_⟩
         · first
             | (go_at_call 14; first | (with_reducible exact callR (toFraction_any n0 d0 _)) | (with_reducible exact callR (toFraction_any n1 d1 _)))
             | (go_at_call 41; exact callR (hS' _))
             | (rw [hw'.cell kc0 ka0]; dsimp only [Result.andThen]; rw [hw'.cell kc0 kb0]; exact ⟨rfl, rfl⟩)
             | (rw [hw'.cell kc1 ka1]; dsimp only [Result.andThen]; rw [hw'.cell kc1 kb1]; exact ⟨rfl, rfl⟩)
         clear hK K))
  refine wpQuietR_nil ?_
  repeat (refine wpPure_step (fun K hK => ?_); go_simp; first | (refine hK _ ?_; clear hK K) | (refine ⟨_, fun _ => rfl, hK _ ?_⟩; clear hK K))
  refine wpPure_nil ?_
  intro g0 w' hw' hx hg
  dsimp only [ptrV]
  obtain ⟨xa, xb, xc⟩ := two_facts hx
  obtain ⟨xf, xg⟩ := two_frozen hx
  refine only_hide (fun K hK => ?_)
  have HK := Lib.hid hK
  clear hK
  go_wp2_with fail
  refine HK.out _ _ ?_
  clear HK K xa xb xc xf xg
  have hB : Below w0.heap.size w0 ((w'.setCell ⟨g0, 0, none⟩ (.int .i64 A)).setCell ⟨g0, 1, none⟩ (.int .i64 B)) := (Below.setCell hw' hg _).setCell hg _
  have hy0 := set_two (.int .i64 A) (.int .i64 B) hx
  have hbw1 := nx hb0 hB
  replace hx0 := heap_keep hB hx0
  clear ka0 kb0 kc0
  replace hx1 := heap_keep hB hx1
  clear ka1 kb1 kc1
  clear hB hb0
  generalize (w'.setCell ⟨g0, 0, none⟩ (.int .i64 A)).setCell ⟨g0, 1, none⟩ (.int .i64 B) = w1 at *
  clear hw' hx hg w'
  obtain ⟨ka0, kb0, kc0⟩ := two_facts hx0
  obtain ⟨ka1, kb1, kc1⟩ := two_facts hx1
  obtain ⟨hy0a, hy0b, hy0c⟩ := two_facts hy0
  go_wp2_with fail
  refine wp_region_floatP 6 8 #[true, true, true, true, true, true, false, false, false, false, false] _ (.cells #[.int .i64 0, .int .i64 0] 25 (0, 0)) (by kernel_rfl) (by kernel_rfl) rfl (fun _ => rfl) (fun _ _ => rfl) ?_
  simp only [List.take_succ_cons, List.take_zero, List.drop_succ_cons, List.drop_zero, Nat.reduceSub]
  repeat (
    refine wpQuietR_step (fun K hK => ?_)
    go_simp
    first
      | (refine hK _ ?_; clear hK K)
      | (refine ⟨_, fun _ _ => rfl, hK _ ?_⟩; clear hK K)
      | (apply Exists.intro
         refine ⟨fun w' hw' => ?_, hK _ ?_⟩
         · first
             | (go_at_call 14; first | (with_reducible exact callR (toFraction_any n0 d0 _)) | (with_reducible exact callR (toFraction_any n1 d1 _)))
             | (go_at_call 42; exact callR (hI' _))
             | (rw [hw'.cell kc0 ka0]; dsimp only [Result.andThen]; rw [hw'.cell kc0 kb0]; exact ⟨rfl, rfl⟩)
             | (rw [hw'.cell kc1 ka1]; dsimp only [Result.andThen]; rw [hw'.cell kc1 kb1]; exact ⟨rfl, rfl⟩)
         clear hK K))
  refine wpQuietR_nil ?_
  repeat (refine wpPure_step (fun K hK => ?_); go_simp; first | (refine hK _ ?_; clear hK K) | (refine ⟨_, fun _ => rfl, hK _ ?_⟩; clear hK K))
  refine wpPure_nil ?_
  intro g1 w' hw' hx hg
  dsimp only [ptrV]
  obtain ⟨xa, xb, xc⟩ := two_facts hx
  obtain ⟨xf, xg⟩ := two_frozen hx
  refine only_hide (fun K hK => ?_)
  have HK := Lib.hid hK
  clear hK
  go_wp2_with fail
  refine HK.out _ _ ?_
  clear HK K xa xb xc xf xg
  have hB : Below w1.heap.size w1 ((w'.setCell ⟨g1, 0, none⟩ (.int .i64 A)).setCell ⟨g1, 1, none⟩ (.int .i64 B)) := (Below.setCell hw' hg _).setCell hg _
  have hy1 := set_two (.int .i64 A) (.int .i64 B) hx
  have hbw2 := nx hbw1 hB
  replace hx0 := heap_keep hB hx0
  clear ka0 kb0 kc0
  replace hx1 := heap_keep hB hx1
  clear ka1 kb1 kc1
  replace hy0 := heap_keep hB hy0
  clear hy0a hy0b hy0c
  clear hB hbw1
  generalize (w'.setCell ⟨g1, 0, none⟩ (.int .i64 A)).setCell ⟨g1, 1, none⟩ (.int .i64 B) = w2 at *
  clear hw' hx hg w'
  obtain ⟨ka0, kb0, kc0⟩ := two_facts hx0
  obtain ⟨ka1, kb1, kc1⟩ := two_facts hx1
  obtain ⟨hy0a, hy0b, hy0c⟩ := two_facts hy0
  obtain ⟨hy1a, hy1b, hy1c⟩ := two_facts hy1
  go_wp2_with fail
  refine (eqFraction_same A B _).mono ?_; rintro e wz ⟨rfl, hbz⟩
  go_wp2_with fail
  go_ret
  exact ⟨rfl, nx hbw2 hbz⟩
end Go.Proofs.Ytbmegkphmifokaa
