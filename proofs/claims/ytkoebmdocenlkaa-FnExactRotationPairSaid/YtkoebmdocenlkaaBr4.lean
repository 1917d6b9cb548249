/- Walks: RotationPair of both sides. -/
import Derived.Test.YtkoebmdocenlkaaWReducePair
import Derived.Test.YtkoebmdocenlkaaWRotateAt
namespace Go.Proofs.Ytkoebmdocenlkaa
open Go.RowKit

theorem pairOf_two {t u : Tr} (ht : t.carets ≤ 8) (hu : u.carets = t.carets) : pairOf t.str u.str = some (t, u) := by
  unfold pairOf
  rw [treeOf_str t ht, treeOf_str u (by omega)]
  simp [hu]
/-- A tree and the same rotated. -/
def rotPO (a b : ByteArray) : Option Pr :=
  match treeOf a with
  | some t => (t.rotAt false b.data.toList).map fun u => red (t, u)
  | none => none
theorem rotPO_none {a b : ByteArray} (h : turnO false a b = none) : rotPO a b = none := by
  unfold turnO at h
  unfold rotPO
  cases k : treeOf a with
  | none => rfl
  | some t => rw [k] at h; simp only at h ⊢; rw [h]; rfl
theorem rotPO_some {a b : ByteArray} {u : Tr} (h : turnO false a b = some u) : ∃ t : Tr, a = t.str ∧ t.carets ≤ 8 ∧ u.carets = t.carets ∧ rotPO a b = some (red (t, u)) := by
  unfold turnO at h
  unfold rotPO
  cases k : treeOf a with
  | none => rw [k] at h; simp at h
  | some t =>
    rw [k] at h
    simp only at h ⊢
    obtain ⟨h1, h2⟩ := treeOf_some k
    exact ⟨t, h1, h2, rotAt_carets _ h, by rw [h]; rfl⟩

set_option maxRecDepth 100000 in
set_option maxHeartbeats 1000000 in
theorem specRotationPair_any (a b : ByteArray) (w : World) (ha : a.size ≤ 9223372036854775806) (hb : b.size ≤ 1048576) :
    Calls Try.prog 27 #[.string a, .string b] w (Gives (ansPr (rotPO a b)) w) := by
  have hT := fun w => brGiven_any false a b w ha (by omega)
  cases h : turnO false a b with
  | none =>
    rw [rotPO_none h]
    rw [h] at hT
    clear h
    unfold ansV at hT
    show Calls _ _ _ _ (Gives (ansPr none) w)
    go_enter Try.func27, Try.ntmps27
    go_wp2_with fail
    have hb0 : Below w.heap.size w (w.alloc (.cells #[.string ⟨#[]⟩, .string ⟨#[]⟩] 34 (0, 0))) := nxAlloc (Below.refl _ _) _
    have hx0 := heap_alloc_at w (.cells #[.string ⟨#[]⟩, .string ⟨#[]⟩] 34 (0, 0))
    generalize (w.alloc (.cells #[.string ⟨#[]⟩, .string ⟨#[]⟩] 34 (0, 0))) = w0 at *
    obtain ⟨hx0a, hx0b, hx0c⟩ := two_facts hx0
    obtain ⟨hx0f, hx0g⟩ := two_frozen hx0
    refine (hT _).mono ?_; rintro e w1 ⟨rfl, hb1⟩
    have hbw1 := nx hb0 hb1
    replace hx0 := heap_keep hb1 hx0
    clear hx0a hx0b hx0c hx0f hx0g
    obtain ⟨hx0a, hx0b, hx0c⟩ := two_facts hx0
    obtain ⟨hx0f, hx0g⟩ := two_frozen hx0
    clear hb1 hb0
    go_wp2_with fail
    obtain ⟨q1, q2⟩ := two_cells (set_two (.string ⟨#[]⟩) (.string ⟨#[]⟩) hx0)
    refine bodyPost_ret (v := .tuple #[.agg #[.string ⟨#[]⟩, .string ⟨#[]⟩], .bool false]) (by simp [q1, q2, results, Try.results27, go_sem]) rfl ⟨rfl, ?_⟩
    exact (hbw1.setCell (by show w.heap.size ≤ w.heap.size; omega) _).setCell (by show w.heap.size ≤ w.heap.size; omega) _
  | some u =>
    obtain ⟨t, rfl, hc, hu, hr⟩ := rotPO_some h
    rw [hr]
    rw [h] at hT
    clear h hr
    unfold ansV at hT
    show Calls _ _ _ _ (Gives (ansPr (some (red (t, u)))) w)
    have hR := fun w => prReduce_nil (t, u) w (by show t.carets ≤ 200; omega) (by show u.carets ≤ 200; omega)
    generalize red (t, u) = p at *
    go_enter Try.func27, Try.ntmps27
    go_wp2_with fail
    have hb0 : Below w.heap.size w (w.alloc (.cells #[.string ⟨#[]⟩, .string ⟨#[]⟩] 34 (0, 0))) := nxAlloc (Below.refl _ _) _
    have hx0 := heap_alloc_at w (.cells #[.string ⟨#[]⟩, .string ⟨#[]⟩] 34 (0, 0))
    generalize (w.alloc (.cells #[.string ⟨#[]⟩, .string ⟨#[]⟩] 34 (0, 0))) = w0 at *
    obtain ⟨hx0a, hx0b, hx0c⟩ := two_facts hx0
    obtain ⟨hx0f, hx0g⟩ := two_frozen hx0
    refine (hT _).mono ?_; rintro e w1 ⟨rfl, hb1⟩
    have hbw1 := nx hb0 hb1
    replace hx0 := heap_keep hb1 hx0
    clear hx0a hx0b hx0c hx0f hx0g
    obtain ⟨hx0a, hx0b, hx0c⟩ := two_facts hx0
    obtain ⟨hx0f, hx0g⟩ := two_frozen hx0
    clear hb1 hb0
    go_wp2_with fail
    refine (hR _).mono ?_; rintro e w2 ⟨rfl, hb2⟩
    have hbw2 := nx hbw1 hb2
    replace hx0 := heap_keep hb2 hx0
    clear hx0a hx0b hx0c hx0f hx0g
    obtain ⟨hx0a, hx0b, hx0c⟩ := two_facts hx0
    obtain ⟨hx0f, hx0g⟩ := two_frozen hx0
    clear hb2 hbw1
    go_wp2_with fail
    obtain ⟨q1, q2⟩ := two_cells (set_two (.string p.1.str) (.string p.2.str) hx0)
    refine bodyPost_ret (v := .tuple #[.agg #[.string p.1.str, .string p.2.str], .bool true]) (by simp [q1, q2, results, Try.results27, go_sem]) rfl ⟨rfl, ?_⟩
    exact (hbw2.setCell (by show w.heap.size ≤ w.heap.size; omega) _).setCell (by show w.heap.size ≤ w.heap.size; omega) _

set_option maxRecDepth 100000 in
set_option maxHeartbeats 1000000 in
theorem implRotationPair_any (a b : ByteArray) (w : World) (ha : a.size ≤ 9223372036854775806) (hb : b.size ≤ 1048576) :
    Calls Try.prog 28 #[.string a, .string b] w (Gives (ansPr (rotPO a b)) w) := by
  have hT := fun w => implRotateAt_any a b w ha hb
  cases h : turnO false a b with
  | none =>
    rw [rotPO_none h]
    rw [h] at hT
    clear h
    unfold ansV at hT
    show Calls _ _ _ _ (Gives (ansPr none) w)
    go_enter Try.func28, Try.ntmps28
    go_wp2_with fail
    have hb0 : Below w.heap.size w (w.alloc (.cells #[.string ⟨#[]⟩, .string ⟨#[]⟩] 34 (0, 0))) := nxAlloc (Below.refl _ _) _
    have hx0 := heap_alloc_at w (.cells #[.string ⟨#[]⟩, .string ⟨#[]⟩] 34 (0, 0))
    generalize (w.alloc (.cells #[.string ⟨#[]⟩, .string ⟨#[]⟩] 34 (0, 0))) = w0 at *
    obtain ⟨hx0a, hx0b, hx0c⟩ := two_facts hx0
    obtain ⟨hx0f, hx0g⟩ := two_frozen hx0
    refine (hT _).mono ?_; rintro e w1 ⟨rfl, hb1⟩
    have hbw1 := nx hb0 hb1
    replace hx0 := heap_keep hb1 hx0
    clear hx0a hx0b hx0c hx0f hx0g
    obtain ⟨hx0a, hx0b, hx0c⟩ := two_facts hx0
    obtain ⟨hx0f, hx0g⟩ := two_frozen hx0
    clear hb1 hb0
    go_wp2_with fail
    obtain ⟨q1, q2⟩ := two_cells (set_two (.string ⟨#[]⟩) (.string ⟨#[]⟩) hx0)
    refine bodyPost_ret (v := .tuple #[.agg #[.string ⟨#[]⟩, .string ⟨#[]⟩], .bool false]) (by simp [q1, q2, results, Try.results28, go_sem]) rfl ⟨rfl, ?_⟩
    exact (hbw1.setCell (by show w.heap.size ≤ w.heap.size; omega) _).setCell (by show w.heap.size ≤ w.heap.size; omega) _
  | some u =>
    obtain ⟨t, rfl, hc, hu, hr⟩ := rotPO_some h
    rw [hr]
    rw [h] at hT
    clear h hr
    unfold ansV at hT
    show Calls _ _ _ _ (Gives (ansPr (some (red (t, u)))) w)
    have hR := fun w => implReducePair_any t.str u.str w (by have := t.str_size; omega) (by have := u.str_size; omega)
    rw [pairOf_two hc hu] at hR
    have hR' : ∀ w, Calls Try.prog 64 #[.agg #[.string t.str, .string u.str]] w (Gives (.tuple #[.agg #[.string (red (t, u)).1.str, .string (red (t, u)).2.str], .bool true]) w) := hR
    clear hR
    generalize red (t, u) = p at *
    go_enter Try.func28, Try.ntmps28
    go_wp2_with fail
    have hb0 : Below w.heap.size w (w.alloc (.cells #[.string ⟨#[]⟩, .string ⟨#[]⟩] 34 (0, 0))) := nxAlloc (Below.refl _ _) _
    have hx0 := heap_alloc_at w (.cells #[.string ⟨#[]⟩, .string ⟨#[]⟩] 34 (0, 0))
    generalize (w.alloc (.cells #[.string ⟨#[]⟩, .string ⟨#[]⟩] 34 (0, 0))) = w0 at *
    obtain ⟨hx0a, hx0b, hx0c⟩ := two_facts hx0
    obtain ⟨hx0f, hx0g⟩ := two_frozen hx0
    refine (hT _).mono ?_; rintro e w1 ⟨rfl, hb1⟩
    have hbw1 := nx hb0 hb1
    replace hx0 := heap_keep hb1 hx0
    clear hx0a hx0b hx0c hx0f hx0g
    obtain ⟨hx0a, hx0b, hx0c⟩ := two_facts hx0
    obtain ⟨hx0f, hx0g⟩ := two_frozen hx0
    clear hb1 hb0
    go_wp2_with fail
    refine (hR' _).mono ?_; rintro e w2 ⟨rfl, hb2⟩
    have hbw2 := nx hbw1 hb2
    replace hx0 := heap_keep hb2 hx0
    clear hx0a hx0b hx0c hx0f hx0g
    obtain ⟨hx0a, hx0b, hx0c⟩ := two_facts hx0
    obtain ⟨hx0f, hx0g⟩ := two_frozen hx0
    clear hb2 hbw1
    go_wp2_with fail
    obtain ⟨q1, q2⟩ := two_cells (set_two (.string p.1.str) (.string p.2.str) hx0)
    refine bodyPost_ret (v := .tuple #[.agg #[.string p.1.str, .string p.2.str], .bool true]) (by simp [q1, q2, results, Try.results28, go_sem]) rfl ⟨rfl, ?_⟩
    exact (hbw2.setCell (by show w.heap.size ≤ w.heap.size; omega) _).setCell (by show w.heap.size ≤ w.heap.size; omega) _
end Go.Proofs.Ytkoebmdocenlkaa
