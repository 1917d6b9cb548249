/- The walk of laws.FnExactReducePair. -/
import Derived.Test.YtkoebmdocenlkaaRedBy
namespace Go.Proofs.Ytkoebmdocenlkaa
open Go.RowKit

theorem prReduce_nil (p : Pr) (w : World) (h1 : p.1.carets ≤ 200) (h2 : p.2.carets ≤ 200) :
    Calls Try.prog 63 #[.agg #[.string p.1.str, .string p.2.str], .slice none 0 0] w (Gives (.agg #[.string (red p).1.str, .string (red p).2.str]) w) :=
  prReduce_any p _ [] 0 w h1 h2 (.inl ⟨rfl, rfl⟩) (fun c hc => by simp at hc)

set_option maxHeartbeats 1000000 in
theorem implReducePair_any (a b : ByteArray) (w : World) (ha : a.size ≤ 9223372036854775806) (hb : b.size ≤ 9223372036854775806) :
    Calls Try.prog 64 #[.agg #[.string a, .string b]] w (Gives (ansPr ((pairOf a b).bind fun p => some (red p))) w) := by
  have hg := fun w => isPair_any a b w ha hb
  cases h : pairOf a b with
  | none =>
    rw [h] at hg
    clear h
    go_enter Try.func64, Try.ntmps64
    go_wp2_with fail
    have hb0 : Below w.heap.size w ((w.alloc (.cells #[.string a, .string b] 34 (0, 0))).alloc (.cells #[.string ⟨#[]⟩, .string ⟨#[]⟩] 34 (0, 0))) := nxAlloc (nxAlloc (Below.refl _ _) _) _
    have hx0 := heap_keep (nxAlloc (Below.refl _ _) (.cells #[.string ⟨#[]⟩, .string ⟨#[]⟩] 34 (0, 0))) (heap_alloc_at w (.cells #[.string a, .string b] 34 (0, 0)))
    have hx1 := heap_alloc_at (w.alloc (.cells #[.string a, .string b] 34 (0, 0))) (.cells #[.string ⟨#[]⟩, .string ⟨#[]⟩] 34 (0, 0))
    generalize ((w.alloc (.cells #[.string a, .string b] 34 (0, 0))).alloc (.cells #[.string ⟨#[]⟩, .string ⟨#[]⟩] 34 (0, 0))) = w0 at *
    have e1 : (w.alloc (.cells #[.string a, .string b] 34 (0, 0))).heap.size = w.heap.size + 1 := by simp
    rw [e1] at hx1
    clear e1
    obtain ⟨hx0a, hx0b, hx0c⟩ := two_facts hx0
    obtain ⟨hx0f, hx0g⟩ := two_frozen hx0
    obtain ⟨hx1a, hx1b, hx1c⟩ := two_facts hx1
    obtain ⟨hx1f, hx1g⟩ := two_frozen hx1
    refine (hg _).mono ?_; rintro e w1 ⟨rfl, hb1⟩
    have hbw1 := nx hb0 hb1
    replace hx0 := heap_keep hb1 hx0
    replace hx1 := heap_keep hb1 hx1
    clear hx0a hx0b hx0c hx0f hx0g
    obtain ⟨hx0a, hx0b, hx0c⟩ := two_facts hx0
    obtain ⟨hx0f, hx0g⟩ := two_frozen hx0
    clear hx1a hx1b hx1c hx1f hx1g
    obtain ⟨hx1a, hx1b, hx1c⟩ := two_facts hx1
    obtain ⟨hx1f, hx1g⟩ := two_frozen hx1
    clear hb1 hb0
    go_wp2_with fail
    obtain ⟨q1, q2⟩ := two_cells (set_two (.string ⟨#[]⟩) (.string ⟨#[]⟩) hx1)
    refine bodyPost_ret (v := .tuple #[.agg #[.string ⟨#[]⟩, .string ⟨#[]⟩], .bool false]) (by simp [q1, q2, results, Try.results64, go_sem]) rfl ⟨rfl, ?_⟩
    exact (hbw1.setCell (by show w.heap.size ≤ w.heap.size + 1; omega) _).setCell (by show w.heap.size ≤ w.heap.size + 1; omega) _
  | some p =>
    rw [h] at hg
    obtain ⟨rfl, rfl, hok, hc1, hc2⟩ := pairOf_some h
    clear h
    show Calls _ _ _ _ (Gives (ansPr (some (red p))) w)
    go_enter Try.func64, Try.ntmps64
    go_wp2_with fail
    have hb0 : Below w.heap.size w ((w.alloc (.cells #[.string p.1.str, .string p.2.str] 34 (0, 0))).alloc (.cells #[.string ⟨#[]⟩, .string ⟨#[]⟩] 34 (0, 0))) := nxAlloc (nxAlloc (Below.refl _ _) _) _
    have hx0 := heap_keep (nxAlloc (Below.refl _ _) (.cells #[.string ⟨#[]⟩, .string ⟨#[]⟩] 34 (0, 0))) (heap_alloc_at w (.cells #[.string p.1.str, .string p.2.str] 34 (0, 0)))
    have hx1 := heap_alloc_at (w.alloc (.cells #[.string p.1.str, .string p.2.str] 34 (0, 0))) (.cells #[.string ⟨#[]⟩, .string ⟨#[]⟩] 34 (0, 0))
    generalize ((w.alloc (.cells #[.string p.1.str, .string p.2.str] 34 (0, 0))).alloc (.cells #[.string ⟨#[]⟩, .string ⟨#[]⟩] 34 (0, 0))) = w0 at *
    have e1 : (w.alloc (.cells #[.string p.1.str, .string p.2.str] 34 (0, 0))).heap.size = w.heap.size + 1 := by simp
    rw [e1] at hx1
    clear e1
    obtain ⟨hx0a, hx0b, hx0c⟩ := two_facts hx0
    obtain ⟨hx0f, hx0g⟩ := two_frozen hx0
    obtain ⟨hx1a, hx1b, hx1c⟩ := two_facts hx1
    obtain ⟨hx1f, hx1g⟩ := two_frozen hx1
    refine (hg _).mono ?_; rintro e w1 ⟨rfl, hb1⟩
    have hbw1 := nx hb0 hb1
    replace hx0 := heap_keep hb1 hx0
    replace hx1 := heap_keep hb1 hx1
    clear hx0a hx0b hx0c hx0f hx0g
    obtain ⟨hx0a, hx0b, hx0c⟩ := two_facts hx0
    obtain ⟨hx0f, hx0g⟩ := two_frozen hx0
    clear hx1a hx1b hx1c hx1f hx1g
    obtain ⟨hx1a, hx1b, hx1c⟩ := two_facts hx1
    obtain ⟨hx1f, hx1g⟩ := two_frozen hx1
    clear hb1 hb0
    go_wp2_with fail
    refine (reducedBy_first p _ (by omega) (by omega)).mono ?_; rintro e w2 ⟨rfl, hb2⟩
    have hbw2 := nx hbw1 hb2
    replace hx0 := heap_keep hb2 hx0
    replace hx1 := heap_keep hb2 hx1
    clear hx0a hx0b hx0c hx0f hx0g
    obtain ⟨hx0a, hx0b, hx0c⟩ := two_facts hx0
    obtain ⟨hx0f, hx0g⟩ := two_frozen hx0
    clear hx1a hx1b hx1c hx1f hx1g
    obtain ⟨hx1a, hx1b, hx1c⟩ := two_facts hx1
    obtain ⟨hx1f, hx1g⟩ := two_frozen hx1
    clear hb2 hbw1
    go_wp2_with fail
    obtain ⟨q1, q2⟩ := two_cells (set_two (.string (red p).1.str) (.string (red p).2.str) hx1)
    refine bodyPost_ret (v := .tuple #[.agg #[.string (red p).1.str, .string (red p).2.str], .bool true]) (by simp [q1, q2, results, Try.results64, go_sem]) rfl ⟨rfl, ?_⟩
    exact (hbw2.setCell (by show w.heap.size ≤ w.heap.size + 1; omega) _).setCell (by show w.heap.size ≤ w.heap.size + 1; omega) _

end Go.Proofs.Ytkoebmdocenlkaa
