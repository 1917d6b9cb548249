/- The walk of laws.FnExactCommutatorPair. -/
import Derived.Test.YtbeailflcinilaaCommC
namespace Go.Proofs.Ytbeailflcinilaa
open Go.RowKit

set_option maxRecDepth 100000 in
set_option maxHeartbeats 1000000 in
theorem fnExactCommutatorPair_walk (a0 : ByteArray) (ha0 : a0.size ≤ maxLen) (b0 : ByteArray) (hb0 : b0.size ≤ maxLen) (a1 : ByteArray) (ha1 : a1.size ≤ maxLen) (b1 : ByteArray) (hb1 : b1.size ≤ maxLen) (w : World) :
    Calls Try.prog 14 #[.agg #[.string a0, .string b0], .agg #[.string a1, .string b1]] w fun e w' => e = .returned (.bool true) ∧ Below w.heap.size w w' := by
  unfold maxLen at ha0 hb0 ha1 hb1
  have hsz0 := fun w => szPair_any a0 b0 w (by omega) (by omega) 1048576 (by omega) (by omega)
  by_cases hz0 : (a0.size : Int) + b0.size ≤ 1048576
  rotate_left
  · simp only [if_neg hz0] at hsz0
    go_enter Try.func14, Try.ntmps14
    go_wp2_with fail
    have hb0 : Below w.heap.size w ((w.alloc (.cells #[.string a0, .string b0] 32 (0, 0))).alloc (.cells #[.string a1, .string b1] 32 (0, 0))) := nxAlloc (nxAlloc (Below.refl _ _) _) _
    have hx0 := heap_keep (nxAlloc (Below.refl _ _) (.cells #[.string a1, .string b1] 32 (0, 0))) (heap_alloc_at w (.cells #[.string a0, .string b0] 32 (0, 0)))
    have hx1 := heap_alloc_at (w.alloc (.cells #[.string a0, .string b0] 32 (0, 0))) (.cells #[.string a1, .string b1] 32 (0, 0))
    generalize ((w.alloc (.cells #[.string a0, .string b0] 32 (0, 0))).alloc (.cells #[.string a1, .string b1] 32 (0, 0))) = w0 at *
    have e1 : (w.alloc (.cells #[.string a0, .string b0] 32 (0, 0))).heap.size = w.heap.size + 1 := by simp
    rw [e1] at hx1
    clear e1
    obtain ⟨ka0, kb0, kc0⟩ := two_facts hx0
    obtain ⟨ka1, kb1, kc1⟩ := two_facts hx1
    refine (hsz0 _).mono ?_; rintro e w1 ⟨rfl, hb1⟩
    have hbw1 := nx hb0 hb1
    replace hx0 := heap_keep hb1 hx0
    clear ka0 kb0 kc0
    obtain ⟨ka0, kb0, kc0⟩ := two_facts hx0
    replace hx1 := heap_keep hb1 hx1
    clear ka1 kb1 kc1
    obtain ⟨ka1, kb1, kc1⟩ := two_facts hx1
    clear hb1 hb0
    go_wp2_with fail
    go_ret
    exact ⟨rfl, hbw1⟩
  simp only [if_pos hz0] at hsz0
  have hsz1 := fun w => szPair_any a1 b1 w (by omega) (by omega) (1048576 - (a0.size : Int) - b0.size) (by omega) (by omega)
  by_cases hz1 : (a1.size : Int) + b1.size ≤ (1048576 - (a0.size : Int) - b0.size)
  rotate_left
  · simp only [if_neg hz1] at hsz1
    go_enter Try.func14, Try.ntmps14
    go_wp2_with fail
    have hb0 : Below w.heap.size w ((w.alloc (.cells #[.string a0, .string b0] 32 (0, 0))).alloc (.cells #[.string a1, .string b1] 32 (0, 0))) := nxAlloc (nxAlloc (Below.refl _ _) _) _
    have hx0 := heap_keep (nxAlloc (Below.refl _ _) (.cells #[.string a1, .string b1] 32 (0, 0))) (heap_alloc_at w (.cells #[.string a0, .string b0] 32 (0, 0)))
    have hx1 := heap_alloc_at (w.alloc (.cells #[.string a0, .string b0] 32 (0, 0))) (.cells #[.string a1, .string b1] 32 (0, 0))
    generalize ((w.alloc (.cells #[.string a0, .string b0] 32 (0, 0))).alloc (.cells #[.string a1, .string b1] 32 (0, 0))) = w0 at *
    have e1 : (w.alloc (.cells #[.string a0, .string b0] 32 (0, 0))).heap.size = w.heap.size + 1 := by simp
    rw [e1] at hx1
    clear e1
    obtain ⟨ka0, kb0, kc0⟩ := two_facts hx0
    obtain ⟨ka1, kb1, kc1⟩ := two_facts hx1
    refine (hsz0 _).mono ?_; rintro e w1 ⟨rfl, hb1⟩
    have hbw1 := nx hb0 hb1
    replace hx0 := heap_keep hb1 hx0
    clear ka0 kb0 kc0
    obtain ⟨ka0, kb0, kc0⟩ := two_facts hx0
    replace hx1 := heap_keep hb1 hx1
    clear ka1 kb1 kc1
    obtain ⟨ka1, kb1, kc1⟩ := two_facts hx1
    clear hb1 hb0
    go_wp2_with fail
    refine (hsz1 _).mono ?_; rintro e w2 ⟨rfl, hb2⟩
    have hbw2 := nx hbw1 hb2
    replace hx0 := heap_keep hb2 hx0
    clear ka0 kb0 kc0
    obtain ⟨ka0, kb0, kc0⟩ := two_facts hx0
    replace hx1 := heap_keep hb2 hx1
    clear ka1 kb1 kc1
    obtain ⟨ka1, kb1, kc1⟩ := two_facts hx1
    clear hb2 hbw1
    go_wp2_with fail
    go_ret
    exact ⟨rfl, hbw2⟩
  simp only [if_pos hz1] at hsz1
  have hS := fun w => specCommutatorPair_any a0 b0 a1 b1 w (by omega) (by omega) (by omega) (by omega)
  have hI := fun w => implCommutatorPair_any a0 b0 a1 b1 w (by omega) (by omega) (by omega) (by omega)
  have hS' : ∀ w, Calls Try.prog 44 #[.agg #[.string a0, .string b0], .agg #[.string a1, .string b1]] w (Gives (ansPr ((pairOf a0 b0).bind fun p => (pairOf a1 b1).bind fun q => limP (mulP (mulP (invP p) (invP q)) (mulP p q)))) w) := hS
  have hI' : ∀ w, Calls Try.prog 45 #[.agg #[.string a0, .string b0], .agg #[.string a1, .string b1]] w (Gives (ansPr ((pairOf a0 b0).bind fun p => (pairOf a1 b1).bind fun q => limP (mulP (mulP (invP p) (invP q)) (mulP p q)))) w) := hI
  clear hS hI
  generalize ((pairOf a0 b0).bind fun p => (pairOf a1 b1).bind fun q => limP (mulP (mulP (invP p) (invP q)) (mulP p q))) = o at hS' hI'
  unfold ansPr at hS' hI'
  generalize pS1 o = A at hS' hI'
  generalize pS2 o = B at hS' hI'
  generalize o.isSome = ok at hS' hI'
  clear o
  go_enter Try.func14, Try.ntmps14
  go_wp2_with fail
  have hb0 : Below w.heap.size w ((w.alloc (.cells #[.string a0, .string b0] 32 (0, 0))).alloc (.cells #[.string a1, .string b1] 32 (0, 0))) := nxAlloc (nxAlloc (Below.refl _ _) _) _
  have hx0 := heap_keep (nxAlloc (Below.refl _ _) (.cells #[.string a1, .string b1] 32 (0, 0))) (heap_alloc_at w (.cells #[.string a0, .string b0] 32 (0, 0)))
  have hx1 := heap_alloc_at (w.alloc (.cells #[.string a0, .string b0] 32 (0, 0))) (.cells #[.string a1, .string b1] 32 (0, 0))
  generalize ((w.alloc (.cells #[.string a0, .string b0] 32 (0, 0))).alloc (.cells #[.string a1, .string b1] 32 (0, 0))) = w0 at *
  have e1 : (w.alloc (.cells #[.string a0, .string b0] 32 (0, 0))).heap.size = w.heap.size + 1 := by simp
  rw [e1] at hx1
  clear e1
  obtain ⟨ka0, kb0, kc0⟩ := two_facts hx0
  obtain ⟨ka1, kb1, kc1⟩ := two_facts hx1
  refine (hsz0 _).mono ?_; rintro e w1 ⟨rfl, hb1⟩
  have hbw1 := nx hb0 hb1
  replace hx0 := heap_keep hb1 hx0
  clear ka0 kb0 kc0
  obtain ⟨ka0, kb0, kc0⟩ := two_facts hx0
  replace hx1 := heap_keep hb1 hx1
  clear ka1 kb1 kc1
  obtain ⟨ka1, kb1, kc1⟩ := two_facts hx1
  clear hb1 hb0
  go_wp2_with fail
  refine (hsz1 _).mono ?_; rintro e w2 ⟨rfl, hb2⟩
  have hbw2 := nx hbw1 hb2
  replace hx0 := heap_keep hb2 hx0
  clear ka0 kb0 kc0
  obtain ⟨ka0, kb0, kc0⟩ := two_facts hx0
  replace hx1 := heap_keep hb2 hx1
  clear ka1 kb1 kc1
  obtain ⟨ka1, kb1, kc1⟩ := two_facts hx1
  clear hb2 hbw1
  go_wp2_with fail
  refine wp_region_floatP 6 8 #[true, true, true, true, true, true, false, false, false, false, false] _ (.cells #[.string ⟨#[]⟩, .string ⟨#[]⟩] 35 (0, 0)) (by kernel_rfl) (by kernel_rfl) rfl (fun _ => rfl) (fun _ _ => rfl) ?_
  simp only [List.take_succ_cons, List.take_zero, List.drop_succ_cons, List.drop_zero, Nat.reduceSub]
  repeat (
    refine wpQuietR_step (fun K hK => ?_)
    go_simp
    first
      | (refine hK _ ?_; clear hK K)
      | (refine ⟨_, fun _ _ => rfl, hK _ ?_⟩; clear hK K)
      | (apply Exists.intro
         refine ⟨fun w' hw' => ?_, hK _ ?_⟩
         · first
             | (go_at_call 24; first | (with_reducible exact callR (toPair_any a0 b0 _)) | (with_reducible exact callR (toPair_any a1 b1 _)))
             | (go_at_call 44; exact callR (hS' _))
             | (rw [hw'.cell kc0 ka0]; dsimp only [Result.andThen]; rw [hw'.cell kc0 kb0]; exact ⟨rfl, rfl⟩)
             | (rw [hw'.cell kc1 ka1]; dsimp only [Result.andThen]; rw [hw'.cell kc1 kb1]; exact ⟨rfl, rfl⟩)
         clear hK K))
  refine wpQuietR_nil ?_
  repeat (refine wpPure_step (fun K hK => ?_); go_simp; first | (refine hK _ ?_; clear hK K) | (refine ⟨_, fun _ => rfl, hK _ ?_⟩; clear hK K))
  refine wpPure_nil ?_
  intro g0 w' hw' hx hg
  dsimp only [ptrV]
  obtain ⟨xa, xb, xc⟩ := two_facts hx
  obtain ⟨xf, xg⟩ := two_frozen hx
  refine only_hide (fun K hK => ?_)
  have HK := Lib.hid hK
  clear hK
  go_wp2_with fail
  refine HK.out _ _ ?_
  clear HK K xa xb xc xf xg
  have hB : Below w2.heap.size w2 ((w'.setCell ⟨g0, 0, none⟩ (.string A)).setCell ⟨g0, 1, none⟩ (.string B)) := (Below.setCell hw' hg _).setCell hg _
  have hy0 := set_two (.string A) (.string B) hx
  have hbw3 := nx hbw2 hB
  replace hx0 := heap_keep hB hx0
  clear ka0 kb0 kc0
  replace hx1 := heap_keep hB hx1
  clear ka1 kb1 kc1
  clear hB hbw2
  generalize (w'.setCell ⟨g0, 0, none⟩ (.string A)).setCell ⟨g0, 1, none⟩ (.string B) = w3 at *
  clear hw' hx hg w'
  obtain ⟨ka0, kb0, kc0⟩ := two_facts hx0
  obtain ⟨ka1, kb1, kc1⟩ := two_facts hx1
  obtain ⟨hy0a, hy0b, hy0c⟩ := two_facts hy0
  go_wp2_with fail
  refine wp_region_floatP 6 8 #[true, true, true, true, true, true, false, false, false, false, false] _ (.cells #[.string ⟨#[]⟩, .string ⟨#[]⟩] 35 (0, 0)) (by kernel_rfl) (by kernel_rfl) rfl (fun _ => rfl) (fun _ _ => rfl) ?_
  simp only [List.take_succ_cons, List.take_zero, List.drop_succ_cons, List.drop_zero, Nat.reduceSub]
  repeat (
    refine wpQuietR_step (fun K hK => ?_)
    go_simp
    first
      | (refine hK _ ?_; clear hK K)
      | (refine ⟨_, fun _ _ => rfl, hK _ ?_⟩; clear hK K)
      | (apply Exists.intro
         refine ⟨fun w' hw' => ?_, hK _ ?_⟩
         · first
             | (go_at_call 24; first | (with_reducible exact callR (toPair_any a0 b0 _)) | (with_reducible exact callR (toPair_any a1 b1 _)))
             | (go_at_call 45; exact callR (hI' _))
             | (rw [hw'.cell kc0 ka0]; dsimp only [Result.andThen]; rw [hw'.cell kc0 kb0]; exact ⟨rfl, rfl⟩)
             | (rw [hw'.cell kc1 ka1]; dsimp only [Result.andThen]; rw [hw'.cell kc1 kb1]; exact ⟨rfl, rfl⟩)
         clear hK K))
  refine wpQuietR_nil ?_
  repeat (refine wpPure_step (fun K hK => ?_); go_simp; first | (refine hK _ ?_; clear hK K) | (refine ⟨_, fun _ => rfl, hK _ ?_⟩; clear hK K))
  refine wpPure_nil ?_
  intro g1 w' hw' hx hg
  dsimp only [ptrV]
  obtain ⟨xa, xb, xc⟩ := two_facts hx
  obtain ⟨xf, xg⟩ := two_frozen hx
  refine only_hide (fun K hK => ?_)
  have HK := Lib.hid hK
  clear hK
  go_wp2_with fail
  refine HK.out _ _ ?_
  clear HK K xa xb xc xf xg
  have hB : Below w3.heap.size w3 ((w'.setCell ⟨g1, 0, none⟩ (.string A)).setCell ⟨g1, 1, none⟩ (.string B)) := (Below.setCell hw' hg _).setCell hg _
  have hy1 := set_two (.string A) (.string B) hx
  have hbw4 := nx hbw3 hB
  replace hx0 := heap_keep hB hx0
  clear ka0 kb0 kc0
  replace hx1 := heap_keep hB hx1
  clear ka1 kb1 kc1
  replace hy0 := heap_keep hB hy0
  clear hy0a hy0b hy0c
  clear hB hbw3
  generalize (w'.setCell ⟨g1, 0, none⟩ (.string A)).setCell ⟨g1, 1, none⟩ (.string B) = w4 at *
  clear hw' hx hg w'
  obtain ⟨ka0, kb0, kc0⟩ := two_facts hx0
  obtain ⟨ka1, kb1, kc1⟩ := two_facts hx1
  obtain ⟨hy0a, hy0b, hy0c⟩ := two_facts hy0
  obtain ⟨hy1a, hy1b, hy1c⟩ := two_facts hy1
  go_wp2_with fail
  refine (eqPair_same A B _).mono ?_; rintro e wz ⟨rfl, hbz⟩
  go_wp2_with fail
  go_ret
  exact ⟨rfl, nx hbw4 hbz⟩
end Go.Proofs.Ytbeailflcinilaa
