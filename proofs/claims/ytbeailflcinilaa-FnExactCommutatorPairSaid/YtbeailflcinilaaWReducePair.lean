/- The walk of laws.FnExactReducePair. -/
import Derived.Test.YtbeailflcinilaaRedBy
namespace Go.Proofs.Ytbeailflcinilaa
open Go.RowKit

theorem prReduce_nil (p : Pr) (w : World) (h1 : p.1.carets ≤ 200) (h2 : p.2.carets ≤ 200) :
    Calls Try.prog 56 #[.agg #[.string p.1.str, .string p.2.str], .slice none 0 0] w (Gives (.agg #[.string (red p).1.str, .string (red p).2.str]) w) :=
  prReduce_any p _ [] 0 w h1 h2 (.inl ⟨rfl, rfl⟩) (fun c hc => by simp at hc)

set_option maxHeartbeats 1000000 in
theorem specReducePair_any (a b : ByteArray) (w : World) (ha : a.size ≤ 9223372036854775806) (hb : b.size ≤ 9223372036854775806) :
    Calls Try.prog 28 #[.agg #[.string a, .string b]] w (Gives (ansPr ((pairOf a b).bind fun p => some (red p))) w) := by
  have hg := fun w => prGood_any a b w ha hb
  cases h : pairOf a b with
  | none =>
    rw [h] at hg
    clear h
    go_enter Try.func28, Try.ntmps28
    go_wp2_with fail
    have hb0 : Below w.heap.size w ((w.alloc (.cells #[.string a, .string b] 35 (0, 0))).alloc (.cells #[.string ⟨#[]⟩, .string ⟨#[]⟩] 35 (0, 0))) := nxAlloc (nxAlloc (Below.refl _ _) _) _
    have hx0 := heap_keep (nxAlloc (Below.refl _ _) (.cells #[.string ⟨#[]⟩, .string ⟨#[]⟩] 35 (0, 0))) (heap_alloc_at w (.cells #[.string a, .string b] 35 (0, 0)))
    have hx1 := heap_alloc_at (w.alloc (.cells #[.string a, .string b] 35 (0, 0))) (.cells #[.string ⟨#[]⟩, .string ⟨#[]⟩] 35 (0, 0))
    generalize ((w.alloc (.cells #[.string a, .string b] 35 (0, 0))).alloc (.cells #[.string ⟨#[]⟩, .string ⟨#[]⟩] 35 (0, 0))) = w0 at *
    have e1 : (w.alloc (.cells #[.string a, .string b] 35 (0, 0))).heap.size = w.heap.size + 1 := by simp
    rw [e1] at hx1
    clear e1
    obtain ⟨hx0a, hx0b, hx0c⟩ := two_facts hx0
    obtain ⟨hx0f, hx0g⟩ := two_frozen hx0
    obtain ⟨hx1a, hx1b, hx1c⟩ := two_facts hx1
    obtain ⟨hx1f, hx1g⟩ := two_frozen hx1
    refine (hg _).mono ?_; rintro e w1 ⟨rfl, hb1⟩
    have hbw1 := nx hb0 hb1
    replace hx0 := heap_keep hb1 hx0
    replace hx1 := heap_keep hb1 hx1
    clear hx0a hx0b hx0c hx0f hx0g
    obtain ⟨hx0a, hx0b, hx0c⟩ := two_facts hx0
    obtain ⟨hx0f, hx0g⟩ := two_frozen hx0
    clear hx1a hx1b hx1c hx1f hx1g
    obtain ⟨hx1a, hx1b, hx1c⟩ := two_facts hx1
    obtain ⟨hx1f, hx1g⟩ := two_frozen hx1
    clear hb1 hb0
    go_wp2_with fail
    obtain ⟨q1, q2⟩ := two_cells (set_two (.string ⟨#[]⟩) (.string ⟨#[]⟩) hx1)
    refine bodyPost_ret (v := .tuple #[.agg #[.string ⟨#[]⟩, .string ⟨#[]⟩], .bool false]) (by simp [q1, q2, results, Try.results28, go_sem]) rfl ⟨rfl, ?_⟩
    exact (hbw1.setCell (by show w.heap.size ≤ w.heap.size + 1; omega) _).setCell (by show w.heap.size ≤ w.heap.size + 1; omega) _
  | some p =>
    rw [h] at hg
    obtain ⟨rfl, rfl, hok, hc1, hc2⟩ := pairOf_some h
    clear h
    show Calls _ _ _ _ (Gives (ansPr (some (red p))) w)
    go_enter Try.func28, Try.ntmps28
    go_wp2_with fail
    have hb0 : Below w.heap.size w ((w.alloc (.cells #[.string p.1.str, .string p.2.str] 35 (0, 0))).alloc (.cells #[.string ⟨#[]⟩, .string ⟨#[]⟩] 35 (0, 0))) := nxAlloc (nxAlloc (Below.refl _ _) _) _
    have hx0 := heap_keep (nxAlloc (Below.refl _ _) (.cells #[.string ⟨#[]⟩, .string ⟨#[]⟩] 35 (0, 0))) (heap_alloc_at w (.cells #[.string p.1.str, .string p.2.str] 35 (0, 0)))
    have hx1 := heap_alloc_at (w.alloc (.cells #[.string p.1.str, .string p.2.str] 35 (0, 0))) (.cells #[.string ⟨#[]⟩, .string ⟨#[]⟩] 35 (0, 0))
    generalize ((w.alloc (.cells #[.string p.1.str, .string p.2.str] 35 (0, 0))).alloc (.cells #[.string ⟨#[]⟩, .string ⟨#[]⟩] 35 (0, 0))) = w0 at *
    have e1 : (w.alloc (.cells #[.string p.1.str, .string p.2.str] 35 (0, 0))).heap.size = w.heap.size + 1 := by simp
    rw [e1] at hx1
    clear e1
    obtain ⟨hx0a, hx0b, hx0c⟩ := two_facts hx0
    obtain ⟨hx0f, hx0g⟩ := two_frozen hx0
    obtain ⟨hx1a, hx1b, hx1c⟩ := two_facts hx1
    obtain ⟨hx1f, hx1g⟩ := two_frozen hx1
    refine (hg _).mono ?_; rintro e w1 ⟨rfl, hb1⟩
    have hbw1 := nx hb0 hb1
    replace hx0 := heap_keep hb1 hx0
    replace hx1 := heap_keep hb1 hx1
    clear hx0a hx0b hx0c hx0f hx0g
    obtain ⟨hx0a, hx0b, hx0c⟩ := two_facts hx0
    obtain ⟨hx0f, hx0g⟩ := two_frozen hx0
    clear hx1a hx1b hx1c hx1f hx1g
    obtain ⟨hx1a, hx1b, hx1c⟩ := two_facts hx1
    obtain ⟨hx1f, hx1g⟩ := two_frozen hx1
    clear hb1 hb0
    go_wp2_with fail
    refine (prReduce_nil p _ (by omega) (by omega)).mono ?_; rintro e w2 ⟨rfl, hb2⟩
    have hbw2 := nx hbw1 hb2
    replace hx0 := heap_keep hb2 hx0
    replace hx1 := heap_keep hb2 hx1
    clear hx0a hx0b hx0c hx0f hx0g
    obtain ⟨hx0a, hx0b, hx0c⟩ := two_facts hx0
    obtain ⟨hx0f, hx0g⟩ := two_frozen hx0
    clear hx1a hx1b hx1c hx1f hx1g
    obtain ⟨hx1a, hx1b, hx1c⟩ := two_facts hx1
    obtain ⟨hx1f, hx1g⟩ := two_frozen hx1
    clear hb2 hbw1
    go_wp2_with fail
    obtain ⟨q1, q2⟩ := two_cells (set_two (.string (red p).1.str) (.string (red p).2.str) hx1)
    refine bodyPost_ret (v := .tuple #[.agg #[.string (red p).1.str, .string (red p).2.str], .bool true]) (by simp [q1, q2, results, Try.results28, go_sem]) rfl ⟨rfl, ?_⟩
    exact (hbw2.setCell (by show w.heap.size ≤ w.heap.size + 1; omega) _).setCell (by show w.heap.size ≤ w.heap.size + 1; omega) _

set_option maxHeartbeats 1000000 in
theorem implReducePair_any (a b : ByteArray) (w : World) (ha : a.size ≤ 9223372036854775806) (hb : b.size ≤ 9223372036854775806) :
    Calls Try.prog 29 #[.agg #[.string a, .string b]] w (Gives (ansPr ((pairOf a b).bind fun p => some (red p))) w) := by
  have hg := fun w => isPair_any a b w ha hb
  cases h : pairOf a b with
  | none =>
    rw [h] at hg
    clear h
    go_enter Try.func29, Try.ntmps29
    go_wp2_with fail
    have hb0 : Below w.heap.size w ((w.alloc (.cells #[.string a, .string b] 35 (0, 0))).alloc (.cells #[.string ⟨#[]⟩, .string ⟨#[]⟩] 35 (0, 0))) := nxAlloc (nxAlloc (Below.refl _ _) _) _
    have hx0 := heap_keep (nxAlloc (Below.refl _ _) (.cells #[.string ⟨#[]⟩, .string ⟨#[]⟩] 35 (0, 0))) (heap_alloc_at w (.cells #[.string a, .string b] 35 (0, 0)))
    have hx1 := heap_alloc_at (w.alloc (.cells #[.string a, .string b] 35 (0, 0))) (.cells #[.string ⟨#[]⟩, .string ⟨#[]⟩] 35 (0, 0))
    generalize ((w.alloc (.cells #[.string a, .string b] 35 (0, 0))).alloc (.cells #[.string ⟨#[]⟩, .string ⟨#[]⟩] 35 (0, 0))) = w0 at *
    have e1 : (w.alloc (.cells #[.string a, .string b] 35 (0, 0))).heap.size = w.heap.size + 1 := by simp
    rw [e1] at hx1
    clear e1
    obtain ⟨hx0a, hx0b, hx0c⟩ := two_facts hx0
    obtain ⟨hx0f, hx0g⟩ := two_frozen hx0
    obtain ⟨hx1a, hx1b, hx1c⟩ := two_facts hx1
    obtain ⟨hx1f, hx1g⟩ := two_frozen hx1
    refine (hg _).mono ?_; rintro e w1 ⟨rfl, hb1⟩
    have hbw1 := nx hb0 hb1
    replace hx0 := heap_keep hb1 hx0
    replace hx1 := heap_keep hb1 hx1
    clear hx0a hx0b hx0c hx0f hx0g
    obtain ⟨hx0a, hx0b, hx0c⟩ := two_facts hx0
    obtain ⟨hx0f, hx0g⟩ := two_frozen hx0
    clear hx1a hx1b hx1c hx1f hx1g
    obtain ⟨hx1a, hx1b, hx1c⟩ := two_facts hx1
    obtain ⟨hx1f, hx1g⟩ := two_frozen hx1
    clear hb1 hb0
    go_wp2_with fail
    obtain ⟨q1, q2⟩ := two_cells (set_two (.string ⟨#[]⟩) (.string ⟨#[]⟩) hx1)
    refine bodyPost_ret (v := .tuple #[.agg #[.string ⟨#[]⟩, .string ⟨#[]⟩], .bool false]) (by simp [q1, q2, results, Try.results29, go_sem]) rfl ⟨rfl, ?_⟩
    exact (hbw1.setCell (by show w.heap.size ≤ w.heap.size + 1; omega) _).setCell (by show w.heap.size ≤ w.heap.size + 1; omega) _
  | some p =>
    rw [h] at hg
    obtain ⟨rfl, rfl, hok, hc1, hc2⟩ := pairOf_some h
    clear h
    show Calls _ _ _ _ (Gives (ansPr (some (red p))) w)
    go_enter Try.func29, Try.ntmps29
    go_wp2_with fail
    have hb0 : Below w.heap.size w ((w.alloc (.cells #[.string p.1.str, .string p.2.str] 35 (0, 0))).alloc (.cells #[.string ⟨#[]⟩, .string ⟨#[]⟩] 35 (0, 0))) := nxAlloc (nxAlloc (Below.refl _ _) _) _
    have hx0 := heap_keep (nxAlloc (Below.refl _ _) (.cells #[.string ⟨#[]⟩, .string ⟨#[]⟩] 35 (0, 0))) (heap_alloc_at w (.cells #[.string p.1.str, .string p.2.str] 35 (0, 0)))
    have hx1 := heap_alloc_at (w.alloc (.cells #[.string p.1.str, .string p.2.str] 35 (0, 0))) (.cells #[.string ⟨#[]⟩, .string ⟨#[]⟩] 35 (0, 0))
    generalize ((w.alloc (.cells #[.string p.1.str, .string p.2.str] 35 (0, 0))).alloc (.cells #[.string ⟨#[]⟩, .string ⟨#[]⟩] 35 (0, 0))) = w0 at *
    have e1 : (w.alloc (.cells #[.string p.1.str, .string p.2.str] 35 (0, 0))).heap.size = w.heap.size + 1 := by simp
    rw [e1] at hx1
    clear e1
    obtain ⟨hx0a, hx0b, hx0c⟩ := two_facts hx0
    obtain ⟨hx0f, hx0g⟩ := two_frozen hx0
    obtain ⟨hx1a, hx1b, hx1c⟩ := two_facts hx1
    obtain ⟨hx1f, hx1g⟩ := two_frozen hx1
    refine (hg _).mono ?_; rintro e w1 ⟨rfl, hb1⟩
    have hbw1 := nx hb0 hb1
    replace hx0 := heap_keep hb1 hx0
    replace hx1 := heap_keep hb1 hx1
    clear hx0a hx0b hx0c hx0f hx0g
    obtain ⟨hx0a, hx0b, hx0c⟩ := two_facts hx0
    obtain ⟨hx0f, hx0g⟩ := two_frozen hx0
    clear hx1a hx1b hx1c hx1f hx1g
    obtain ⟨hx1a, hx1b, hx1c⟩ := two_facts hx1
    obtain ⟨hx1f, hx1g⟩ := two_frozen hx1
    clear hb1 hb0
    go_wp2_with fail
    refine (reducedBy_first p _ (by omega) (by omega)).mono ?_; rintro e w2 ⟨rfl, hb2⟩
    have hbw2 := nx hbw1 hb2
    replace hx0 := heap_keep hb2 hx0
    replace hx1 := heap_keep hb2 hx1
    clear hx0a hx0b hx0c hx0f hx0g
    obtain ⟨hx0a, hx0b, hx0c⟩ := two_facts hx0
    obtain ⟨hx0f, hx0g⟩ := two_frozen hx0
    clear hx1a hx1b hx1c hx1f hx1g
    obtain ⟨hx1a, hx1b, hx1c⟩ := two_facts hx1
    obtain ⟨hx1f, hx1g⟩ := two_frozen hx1
    clear hb2 hbw1
    go_wp2_with fail
    obtain ⟨q1, q2⟩ := two_cells (set_two (.string (red p).1.str) (.string (red p).2.str) hx1)
    refine bodyPost_ret (v := .tuple #[.agg #[.string (red p).1.str, .string (red p).2.str], .bool true]) (by simp [q1, q2, results, Try.results29, go_sem]) rfl ⟨rfl, ?_⟩
    exact (hbw2.setCell (by show w.heap.size ≤ w.heap.size + 1; omega) _).setCell (by show w.heap.size ≤ w.heap.size + 1; omega) _

set_option maxRecDepth 100000 in
set_option maxHeartbeats 1000000 in
theorem fnExactReducePair_walk (a0 : ByteArray) (ha0 : a0.size ≤ maxLen) (b0 : ByteArray) (hb0 : b0.size ≤ maxLen) (w : World) :
    Calls Try.prog 7 #[.agg #[.string a0, .string b0]] w fun e w' => e = .returned (.bool true) ∧ Below w.heap.size w w' := by
  unfold maxLen at ha0 hb0
  have hsz0 := fun w => szPair_any a0 b0 w (by omega) (by omega) 1048576 (by omega) (by omega)
  by_cases hz0 : (a0.size : Int) + b0.size ≤ 1048576
  rotate_left
  · simp only [if_neg hz0] at hsz0
    go_enter Try.func7, Try.ntmps7
    go_wp2_with fail
    have hb0 : Below w.heap.size w (w.alloc (.cells #[.string a0, .string b0] 32 (0, 0))) := nxAlloc (Below.refl _ _) _
    have hx0 := heap_alloc_at w (.cells #[.string a0, .string b0] 32 (0, 0))
    generalize (w.alloc (.cells #[.string a0, .string b0] 32 (0, 0))) = w0 at *
    obtain ⟨ka0, kb0, kc0⟩ := two_facts hx0
    refine (hsz0 _).mono ?_; rintro e w1 ⟨rfl, hb1⟩
    have hbw1 := nx hb0 hb1
    replace hx0 := heap_keep hb1 hx0
    clear ka0 kb0 kc0
    obtain ⟨ka0, kb0, kc0⟩ := two_facts hx0
    clear hb1 hb0
    go_wp2_with fail
    go_ret
    exact ⟨rfl, hbw1⟩
  simp only [if_pos hz0] at hsz0
  have hS := fun w => specReducePair_any a0 b0 w (by omega) (by omega)
  have hI := fun w => implReducePair_any a0 b0 w (by omega) (by omega)
  have hS' : ∀ w, Calls Try.prog 28 #[.agg #[.string a0, .string b0]] w (Gives (ansPr ((pairOf a0 b0).bind fun p => some (red p))) w) := hS
  have hI' : ∀ w, Calls Try.prog 29 #[.agg #[.string a0, .string b0]] w (Gives (ansPr ((pairOf a0 b0).bind fun p => some (red p))) w) := hI
  clear hS hI
  generalize ((pairOf a0 b0).bind fun p => some (red p)) = o at hS' hI'
  unfold ansPr at hS' hI'
  generalize pS1 o = A at hS' hI'
  generalize pS2 o = B at hS' hI'
  generalize o.isSome = ok at hS' hI'
  clear o
  go_enter Try.func7, Try.ntmps7
  go_wp2_with fail
  have hb0 : Below w.heap.size w (w.alloc (.cells #[.string a0, .string b0] 32 (0, 0))) := nxAlloc (Below.refl _ _) _
  have hx0 := heap_alloc_at w (.cells #[.string a0, .string b0] 32 (0, 0))
  generalize (w.alloc (.cells #[.string a0, .string b0] 32 (0, 0))) = w0 at *
  obtain ⟨ka0, kb0, kc0⟩ := two_facts hx0
  refine (hsz0 _).mono ?_; rintro e w1 ⟨rfl, hb1⟩
  have hbw1 := nx hb0 hb1
  replace hx0 := heap_keep hb1 hx0
  clear ka0 kb0 kc0
  obtain ⟨ka0, kb0, kc0⟩ := two_facts hx0
  clear hb1 hb0
  go_wp2_with fail
  refine (toPair_any a0 b0 _).mono ?_; rintro e w2 ⟨rfl, hb2⟩
  have hbw2 := nx hbw1 hb2
  replace hx0 := heap_keep hb2 hx0
  clear ka0 kb0 kc0
  obtain ⟨ka0, kb0, kc0⟩ := two_facts hx0
  clear hb2 hbw1
  go_wp2_with fail
  refine (hS' _).mono ?_; rintro e w3 ⟨rfl, hb3⟩
  have hbw3 := nx hbw2 hb3
  replace hx0 := heap_keep hb3 hx0
  clear ka0 kb0 kc0
  obtain ⟨ka0, kb0, kc0⟩ := two_facts hx0
  clear hb3 hbw2
  go_wp2_with fail
  have hbw4 := nxAlloc hbw3 (.cells #[.string A, .string B] 35 (0, 0))
  replace hx0 := heap_keep (nxAlloc (Below.refl _ _) (.cells #[.string A, .string B] 35 (0, 0))) hx0
  have hy0 := heap_alloc_at w3 (.cells #[.string A, .string B] 35 (0, 0))
  generalize w3.alloc (.cells #[.string A, .string B] 35 (0, 0)) = w4 at *
  clear ka0 kb0 kc0
  obtain ⟨ka0, kb0, kc0⟩ := two_facts hx0
  obtain ⟨ya, yb, yc⟩ := two_facts hy0
  go_wp2_with fail
  refine (toPair_any a0 b0 _).mono ?_; rintro e w5 ⟨rfl, hb5⟩
  have hbw5 := nx hbw4 hb5
  replace hx0 := heap_keep hb5 hx0
  clear ka0 kb0 kc0
  obtain ⟨ka0, kb0, kc0⟩ := two_facts hx0
  replace hy0 := heap_keep hb5 hy0
  clear ya yb yc
  obtain ⟨ya, yb, yc⟩ := two_facts hy0
  clear hb5 hbw4
  go_wp2_with fail
  refine (hI' _).mono ?_; rintro e w6 ⟨rfl, hb6⟩
  have hbw6 := nx hbw5 hb6
  replace hx0 := heap_keep hb6 hx0
  clear ka0 kb0 kc0
  obtain ⟨ka0, kb0, kc0⟩ := two_facts hx0
  replace hy0 := heap_keep hb6 hy0
  clear ya yb yc
  obtain ⟨ya, yb, yc⟩ := two_facts hy0
  clear hb6 hbw5
  go_wp2_with fail
  have hbw7 := nxAlloc hbw6 (.cells #[.string A, .string B] 35 (0, 0))
  replace hx0 := heap_keep (nxAlloc (Below.refl _ _) (.cells #[.string A, .string B] 35 (0, 0))) hx0
  replace hy0 := heap_keep (nxAlloc (Below.refl _ _) (.cells #[.string A, .string B] 35 (0, 0))) hy0
  have hy1 := heap_alloc_at w6 (.cells #[.string A, .string B] 35 (0, 0))
  generalize w6.alloc (.cells #[.string A, .string B] 35 (0, 0)) = w7 at *
  clear ya yb yc
  obtain ⟨ya, yb, yc⟩ := two_facts hy0
  obtain ⟨za, zb, zc⟩ := two_facts hy1
  go_wp2_with fail
  refine (eqPair_same A B _).mono ?_; rintro e wz ⟨rfl, hbz⟩
  go_wp2_with fail
  go_ret
  exact ⟨rfl, nx hbw7 hbz⟩
end Go.Proofs.Ytbeailflcinilaa
