/- Walks: pairs within the limit. -/
import Derived.Test.YtbeailflcinilaaTimes
namespace Go.Proofs.Ytbeailflcinilaa
open Go.RowKit

/-- A pair, if its trees have no more carets than allowed. -/
def limP (p : Pr) : Option Pr := if p.1.carets ≤ 8 then some p else none
theorem treeOf_big {t : Tr} (h : 8 < t.carets) : treeOf t.str = none := by
  unfold treeOf
  rw [parse_str t _ (by have := t.str_size; have := t.text_len; omega)]
  show (if t.carets ≤ 8 then some t else none) = none
  rw [if_neg (by omega)]
theorem pairOf_lim {p : Pr} (h : okP p) : pairOf p.1.str p.2.str = limP p := by
  unfold limP
  by_cases hc : p.1.carets ≤ 8
  · rw [if_pos hc, pairOf_str h hc]
  · rw [if_neg hc]
    unfold pairOf
    rw [treeOf_big (by omega)]

set_option maxHeartbeats 1000000 in
theorem prIf_any (p : Pr) (w : World) (hok : okP p) (hz : p.1.carets ≤ 1000) :
    Calls Try.prog 67 #[.agg #[.string p.1.str, .string p.2.str]] w (Gives (ansPr (limP p)) w) := by
  have hz2 : p.2.carets ≤ 1000 := by unfold okP at hok; omega
  have s1 := p.1.str_size
  have s2 := p.2.str_size
  have hg := fun w => prGood_any p.1.str p.2.str w (by omega) (by omega)
  rw [pairOf_lim hok] at hg
  clear s1 s2
  cases h : limP p with
  | none =>
    rw [h] at hg
    clear h
    go_enter Try.func67, Try.ntmps67
    go_wp2_with fail
    have hb0 : Below w.heap.size w ((w.alloc (.cells #[.string p.1.str, .string p.2.str] 35 (0, 0))).alloc (.cells #[.string ⟨#[]⟩, .string ⟨#[]⟩] 35 (0, 0))) := nxAlloc (nxAlloc (Below.refl _ _) _) _
    have hx0 := heap_keep (nxAlloc (Below.refl _ _) (.cells #[.string ⟨#[]⟩, .string ⟨#[]⟩] 35 (0, 0))) (heap_alloc_at w (.cells #[.string p.1.str, .string p.2.str] 35 (0, 0)))
    have hx1 := heap_alloc_at (w.alloc (.cells #[.string p.1.str, .string p.2.str] 35 (0, 0))) (.cells #[.string ⟨#[]⟩, .string ⟨#[]⟩] 35 (0, 0))
    generalize ((w.alloc (.cells #[.string p.1.str, .string p.2.str] 35 (0, 0))).alloc (.cells #[.string ⟨#[]⟩, .string ⟨#[]⟩] 35 (0, 0))) = w0 at *
    have e1 : (w.alloc (.cells #[.string p.1.str, .string p.2.str] 35 (0, 0))).heap.size = w.heap.size + 1 := by simp
    rw [e1] at hx1
    clear e1
    obtain ⟨hx0a, hx0b, hx0c⟩ := two_facts hx0
    obtain ⟨hx0f, hx0g⟩ := two_frozen hx0
    obtain ⟨hx1a, hx1b, hx1c⟩ := two_facts hx1
    obtain ⟨hx1f, hx1g⟩ := two_frozen hx1
    refine (hg _).mono ?_; rintro e w1 ⟨rfl, hb1⟩
    have hbw1 := nx hb0 hb1
    replace hx0 := heap_keep hb1 hx0
    replace hx1 := heap_keep hb1 hx1
    clear hx0a hx0b hx0c hx0f hx0g
    obtain ⟨hx0a, hx0b, hx0c⟩ := two_facts hx0
    obtain ⟨hx0f, hx0g⟩ := two_frozen hx0
    clear hx1a hx1b hx1c hx1f hx1g
    obtain ⟨hx1a, hx1b, hx1c⟩ := two_facts hx1
    obtain ⟨hx1f, hx1g⟩ := two_frozen hx1
    clear hb1 hb0
    go_wp2_with fail
    obtain ⟨q1, q2⟩ := two_cells (set_two (.string ⟨#[]⟩) (.string ⟨#[]⟩) hx1)
    refine bodyPost_ret (v := .tuple #[.agg #[.string ⟨#[]⟩, .string ⟨#[]⟩], .bool false]) (by simp [q1, q2, results, Try.results67, go_sem]) rfl ⟨rfl, ?_⟩
    exact (hbw1.setCell (by show w.heap.size ≤ w.heap.size + 1; omega) _).setCell (by show w.heap.size ≤ w.heap.size + 1; omega) _
  | some q =>
    have e : q = p := by
      unfold limP at h
      split at h
      · injection h with h; exact h.symm
      · simp at h
    subst e
    rw [h] at hg
    clear h
    go_enter Try.func67, Try.ntmps67
    go_wp2_with fail
    have hb0 : Below w.heap.size w ((w.alloc (.cells #[.string q.1.str, .string q.2.str] 35 (0, 0))).alloc (.cells #[.string ⟨#[]⟩, .string ⟨#[]⟩] 35 (0, 0))) := nxAlloc (nxAlloc (Below.refl _ _) _) _
    have hx0 := heap_keep (nxAlloc (Below.refl _ _) (.cells #[.string ⟨#[]⟩, .string ⟨#[]⟩] 35 (0, 0))) (heap_alloc_at w (.cells #[.string q.1.str, .string q.2.str] 35 (0, 0)))
    have hx1 := heap_alloc_at (w.alloc (.cells #[.string q.1.str, .string q.2.str] 35 (0, 0))) (.cells #[.string ⟨#[]⟩, .string ⟨#[]⟩] 35 (0, 0))
    generalize ((w.alloc (.cells #[.string q.1.str, .string q.2.str] 35 (0, 0))).alloc (.cells #[.string ⟨#[]⟩, .string ⟨#[]⟩] 35 (0, 0))) = w0 at *
    have e1 : (w.alloc (.cells #[.string q.1.str, .string q.2.str] 35 (0, 0))).heap.size = w.heap.size + 1 := by simp
    rw [e1] at hx1
    clear e1
    obtain ⟨hx0a, hx0b, hx0c⟩ := two_facts hx0
    obtain ⟨hx0f, hx0g⟩ := two_frozen hx0
    obtain ⟨hx1a, hx1b, hx1c⟩ := two_facts hx1
    obtain ⟨hx1f, hx1g⟩ := two_frozen hx1
    refine (hg _).mono ?_; rintro e w1 ⟨rfl, hb1⟩
    have hbw1 := nx hb0 hb1
    replace hx0 := heap_keep hb1 hx0
    replace hx1 := heap_keep hb1 hx1
    clear hx0a hx0b hx0c hx0f hx0g
    obtain ⟨hx0a, hx0b, hx0c⟩ := two_facts hx0
    obtain ⟨hx0f, hx0g⟩ := two_frozen hx0
    clear hx1a hx1b hx1c hx1f hx1g
    obtain ⟨hx1a, hx1b, hx1c⟩ := two_facts hx1
    obtain ⟨hx1f, hx1g⟩ := two_frozen hx1
    clear hb1 hb0
    go_wp2_with fail
    obtain ⟨q1, q2⟩ := two_cells (set_two (.string q.1.str) (.string q.2.str) hx1)
    refine bodyPost_ret (v := .tuple #[.agg #[.string q.1.str, .string q.2.str], .bool true]) (by simp [q1, q2, results, Try.results67, go_sem]) rfl ⟨rfl, ?_⟩
    exact (hbw1.setCell (by show w.heap.size ≤ w.heap.size + 1; omega) _).setCell (by show w.heap.size ≤ w.heap.size + 1; omega) _

set_option maxHeartbeats 1000000 in
theorem pairLimit_any (p : Pr) (w : World) :
    Calls Try.prog 69 #[.agg #[.string p.1.str, .string p.2.str]] w (Gives (ansPr (limP p)) w) := by
  have hg : ∀ w, Calls Try.prog 80 #[.string p.1.str] w (Gives (ansV (lim p.1)) w) := fun w => (limit_any p.1 w).mono fun _ _ ⟨h1, h2⟩ => ⟨h1, by rw [← h2]; exact Below.refl _ _⟩
  unfold lim at hg
  unfold limP
  by_cases h : p.1.carets ≤ 8
  · rw [if_pos h] at hg ⊢
    have hg' : ∀ w, Calls Try.prog 80 #[.string p.1.str] w (Gives (.tuple #[.string p.1.str, .bool true]) w) := hg
    clear hg h
    go_enter Try.func69, Try.ntmps69
    go_wp2_with fail
    have hb0 : Below w.heap.size w ((w.alloc (.cells #[.string p.1.str, .string p.2.str] 35 (0, 0))).alloc (.cells #[.string ⟨#[]⟩, .string ⟨#[]⟩] 35 (0, 0))) := nxAlloc (nxAlloc (Below.refl _ _) _) _
    have hx0 := heap_keep (nxAlloc (Below.refl _ _) (.cells #[.string ⟨#[]⟩, .string ⟨#[]⟩] 35 (0, 0))) (heap_alloc_at w (.cells #[.string p.1.str, .string p.2.str] 35 (0, 0)))
    have hx1 := heap_alloc_at (w.alloc (.cells #[.string p.1.str, .string p.2.str] 35 (0, 0))) (.cells #[.string ⟨#[]⟩, .string ⟨#[]⟩] 35 (0, 0))
    generalize ((w.alloc (.cells #[.string p.1.str, .string p.2.str] 35 (0, 0))).alloc (.cells #[.string ⟨#[]⟩, .string ⟨#[]⟩] 35 (0, 0))) = w0 at *
    have e1 : (w.alloc (.cells #[.string p.1.str, .string p.2.str] 35 (0, 0))).heap.size = w.heap.size + 1 := by simp
    rw [e1] at hx1
    clear e1
    obtain ⟨hx0a, hx0b, hx0c⟩ := two_facts hx0
    obtain ⟨hx0f, hx0g⟩ := two_frozen hx0
    obtain ⟨hx1a, hx1b, hx1c⟩ := two_facts hx1
    obtain ⟨hx1f, hx1g⟩ := two_frozen hx1
    refine (hg' _).mono ?_; rintro e w1 ⟨rfl, hb1⟩
    have hbw1 := nx hb0 hb1
    replace hx0 := heap_keep hb1 hx0
    replace hx1 := heap_keep hb1 hx1
    clear hx0a hx0b hx0c hx0f hx0g
    obtain ⟨hx0a, hx0b, hx0c⟩ := two_facts hx0
    obtain ⟨hx0f, hx0g⟩ := two_frozen hx0
    clear hx1a hx1b hx1c hx1f hx1g
    obtain ⟨hx1a, hx1b, hx1c⟩ := two_facts hx1
    obtain ⟨hx1f, hx1g⟩ := two_frozen hx1
    clear hb1 hb0
    go_wp2_with fail
    obtain ⟨q1, q2⟩ := two_cells (set_two (.string p.1.str) (.string p.2.str) hx1)
    refine bodyPost_ret (v := .tuple #[.agg #[.string p.1.str, .string p.2.str], .bool true]) (by simp [q1, q2, results, Try.results69, go_sem]) rfl ⟨rfl, ?_⟩
    exact (hbw1.setCell (by show w.heap.size ≤ w.heap.size + 1; omega) _).setCell (by show w.heap.size ≤ w.heap.size + 1; omega) _
  · rw [if_neg h] at hg ⊢
    have hg' : ∀ w, Calls Try.prog 80 #[.string p.1.str] w (Gives (.tuple #[.string ⟨#[]⟩, .bool false]) w) := hg
    clear hg h
    go_enter Try.func69, Try.ntmps69
    go_wp2_with fail
    have hb0 : Below w.heap.size w ((w.alloc (.cells #[.string p.1.str, .string p.2.str] 35 (0, 0))).alloc (.cells #[.string ⟨#[]⟩, .string ⟨#[]⟩] 35 (0, 0))) := nxAlloc (nxAlloc (Below.refl _ _) _) _
    have hx0 := heap_keep (nxAlloc (Below.refl _ _) (.cells #[.string ⟨#[]⟩, .string ⟨#[]⟩] 35 (0, 0))) (heap_alloc_at w (.cells #[.string p.1.str, .string p.2.str] 35 (0, 0)))
    have hx1 := heap_alloc_at (w.alloc (.cells #[.string p.1.str, .string p.2.str] 35 (0, 0))) (.cells #[.string ⟨#[]⟩, .string ⟨#[]⟩] 35 (0, 0))
    generalize ((w.alloc (.cells #[.string p.1.str, .string p.2.str] 35 (0, 0))).alloc (.cells #[.string ⟨#[]⟩, .string ⟨#[]⟩] 35 (0, 0))) = w0 at *
    have e1 : (w.alloc (.cells #[.string p.1.str, .string p.2.str] 35 (0, 0))).heap.size = w.heap.size + 1 := by simp
    rw [e1] at hx1
    clear e1
    obtain ⟨hx0a, hx0b, hx0c⟩ := two_facts hx0
    obtain ⟨hx0f, hx0g⟩ := two_frozen hx0
    obtain ⟨hx1a, hx1b, hx1c⟩ := two_facts hx1
    obtain ⟨hx1f, hx1g⟩ := two_frozen hx1
    refine (hg' _).mono ?_; rintro e w1 ⟨rfl, hb1⟩
    have hbw1 := nx hb0 hb1
    replace hx0 := heap_keep hb1 hx0
    replace hx1 := heap_keep hb1 hx1
    clear hx0a hx0b hx0c hx0f hx0g
    obtain ⟨hx0a, hx0b, hx0c⟩ := two_facts hx0
    obtain ⟨hx0f, hx0g⟩ := two_frozen hx0
    clear hx1a hx1b hx1c hx1f hx1g
    obtain ⟨hx1a, hx1b, hx1c⟩ := two_facts hx1
    obtain ⟨hx1f, hx1g⟩ := two_frozen hx1
    clear hb1 hb0
    go_wp2_with fail
    obtain ⟨q1, q2⟩ := two_cells (set_two (.string ⟨#[]⟩) (.string ⟨#[]⟩) hx1)
    refine bodyPost_ret (v := .tuple #[.agg #[.string ⟨#[]⟩, .string ⟨#[]⟩], .bool false]) (by simp [q1, q2, results, Try.results69, go_sem]) rfl ⟨rfl, ?_⟩
    exact (hbw1.setCell (by show w.heap.size ≤ w.heap.size + 1; omega) _).setCell (by show w.heap.size ≤ w.heap.size + 1; omega) _
end Go.Proofs.Ytbeailflcinilaa
