/- The walk of laws.FnExactReduceBy. -/
import Derived.Test.YtbeailflcinilaaRedByI
import Derived.Test.YtbeailflcinilaaArgI
namespace Go.Proofs.Ytbeailflcinilaa
open Go.RowKit

theorem CellsI.of {base : Nat} {w : World} {g n : Nat} {ss : List Int} (h : OwnI base w (.slice (some ⟨g, 0, none⟩) n n) ss) : CellsI base w (.slice (some ⟨g, 0, none⟩) n n) ss := OwnI.cells h

set_option maxRecDepth 100000 in
set_option maxHeartbeats 2000000 in
theorem reduceBy_law (a0 : ByteArray) (ha0 : a0.size ≤ maxLen) (b0 : ByteArray) (hb0' : b0.size ≤ maxLen) (w : World) (oa : Option Addr) (n cap : Nat) (L : List Int) (hl : L.length = n) (hl2 : (n : Int) ≤ 9223372036854775807) (hz : ∀ s ∈ L, -9223372036854775808 ≤ s ∧ s ≤ 9223372036854775807) (hin : InI w oa L) :
    Calls Try.prog 8 #[.agg #[.string a0, .string b0], .slice oa n cap] w fun e w' => e = .returned (.bool true) ∧ Below w.heap.size w w' := by
  unfold maxLen at ha0 hb0'
  have HI := Lib.hid hin
  have HL := Lib.hid hl
  have hsz0 := fun w => szPair_any a0 b0 w (by omega) (by omega) 1048576 (by omega) (by omega)
  clear hin hl
  by_cases hbig : (1048576 : Int) < n
  · clear hsz0 hz
    go_enter Try.func8, Try.ntmps8
    go_wp2_with fail
    go_ret
    exact ⟨rfl, nxAlloc (Below.refl _ _) _⟩
  by_cases hz0 : (a0.size : Int) + b0.size ≤ 1048576
  rotate_left
  · simp only [if_neg hz0] at hsz0
    clear hz
    go_enter Try.func8, Try.ntmps8
    go_wp2_with fail
    have hb0 : Below w.heap.size w (w.alloc (.cells #[.string a0, .string b0] 32 (0, 0))) := nxAlloc (Below.refl _ _) _
    have hx0 := heap_alloc_at w (.cells #[.string a0, .string b0] 32 (0, 0))
    generalize (w.alloc (.cells #[.string a0, .string b0] 32 (0, 0))) = w0 at *
    obtain ⟨hx0a, hx0b, hx0c⟩ := two_facts hx0
    obtain ⟨hx0f, hx0g⟩ := two_frozen hx0
    refine (hsz0 _).mono ?_; rintro e w1 ⟨rfl, hb1⟩
    have hbw1 := nx hb0 hb1
    replace hx0 := heap_keep hb1 hx0
    clear hx0a hx0b hx0c hx0f hx0g
    obtain ⟨hx0a, hx0b, hx0c⟩ := two_facts hx0
    obtain ⟨hx0f, hx0g⟩ := two_frozen hx0
    clear hb1 hb0
    go_wp2_with fail
    go_ret
    exact ⟨rfl, hbw1⟩
  simp only [if_pos hz0] at hsz0
  have hS := fun v b w h => specReduceBy_any a0 b0 v L b w (by omega) (by omega) h hz
  have hI := fun v b w h => implReduceBy_any a0 b0 v L b w (by omega) (by omega) h hz
  have hS' : ∀ v b w, CellsI b w v L → Calls Try.prog 31 #[.agg #[.string a0, .string b0], v] w (Gives (ansPr (redO a0 b0 L)) w) := hS
  have hI' : ∀ v b w, CellsI b w v L → Calls Try.prog 33 #[.agg #[.string a0, .string b0], v] w (Gives (ansPr (redO a0 b0 L)) w) := hI
  clear hS hI hz
  generalize redO a0 b0 L = o at hS' hI'
  unfold ansPr at hS' hI'
  generalize pS1 o = A at hS' hI'
  generalize pS2 o = B at hS' hI'
  generalize o.isSome = ok at hS' hI'
  clear o
  have hT := fun w h => toIntS_any oa cap n L w HL.out (by omega) h
  go_enter Try.func8, Try.ntmps8
  go_wp2_with fail
  have hb0 : Below w.heap.size w (w.alloc (.cells #[.string a0, .string b0] 32 (0, 0))) := nxAlloc (Below.refl _ _) _
  have hx0 := heap_alloc_at w (.cells #[.string a0, .string b0] 32 (0, 0))
  generalize (w.alloc (.cells #[.string a0, .string b0] 32 (0, 0))) = w0 at *
  obtain ⟨hx0a, hx0b, hx0c⟩ := two_facts hx0
  obtain ⟨hx0f, hx0g⟩ := two_frozen hx0
  refine (hsz0 _).mono ?_; rintro e w1 ⟨rfl, hb1⟩
  have hbw1 := nx hb0 hb1
  replace hx0 := heap_keep hb1 hx0
  clear hx0a hx0b hx0c hx0f hx0g
  obtain ⟨hx0a, hx0b, hx0c⟩ := two_facts hx0
  obtain ⟨hx0f, hx0g⟩ := two_frozen hx0
  clear hb1 hb0
  go_wp2_with fail
  refine (toPair_any a0 b0 _).mono ?_; rintro e w2 ⟨rfl, hb2⟩
  have hbw2 := nx hbw1 hb2
  replace hx0 := heap_keep hb2 hx0
  clear hx0a hx0b hx0c hx0f hx0g
  obtain ⟨hx0a, hx0b, hx0c⟩ := two_facts hx0
  obtain ⟨hx0f, hx0g⟩ := two_frozen hx0
  clear hb2 hbw1
  go_wp2_with fail
  refine (hT _ (HI.out.keep hbw2)).mono ?_; rintro e w3 ⟨pg, po, hb3, rfl⟩
  have hbw3 := nx hbw2 hb3
  replace hx0 := heap_keep hb3 hx0
  clear hx0a hx0b hx0c hx0f hx0g
  obtain ⟨hx0a, hx0b, hx0c⟩ := two_facts hx0
  obtain ⟨hx0f, hx0g⟩ := two_frozen hx0
  clear hb3 hbw2
  go_wp2_with fail
  refine (hS' _ _ _ po.cells).mono ?_; rintro e w4 ⟨rfl, hb4⟩
  have hbw4 := nx hbw3 hb4
  replace hx0 := heap_keep hb4 hx0
  clear hx0a hx0b hx0c hx0f hx0g
  obtain ⟨hx0a, hx0b, hx0c⟩ := two_facts hx0
  obtain ⟨hx0f, hx0g⟩ := two_frozen hx0
  replace po := po.keep hb4
  clear hb4 hbw3
  go_wp2_with fail
  have hbw5 := nxAlloc hbw4 (.cells #[.string A, .string B] 35 (0, 0))
  replace hx0 := heap_keep (nxAlloc (Below.refl _ _) (.cells #[.string A, .string B] 35 (0, 0))) hx0
  have hy5 := heap_alloc_at w4 (.cells #[.string A, .string B] 35 (0, 0))
  generalize w4.alloc (.cells #[.string A, .string B] 35 (0, 0)) = w5 at *
  clear hbw4
  clear hx0a hx0b hx0c hx0f hx0g
  obtain ⟨hx0a, hx0b, hx0c⟩ := two_facts hx0
  obtain ⟨hx0f, hx0g⟩ := two_frozen hx0
  obtain ⟨hy5a, hy5b, hy5c⟩ := two_facts hy5
  obtain ⟨hy5f, hy5g⟩ := two_frozen hy5
  go_wp2_with fail
  refine (hT _ (HI.out.keep hbw5)).mono ?_; rintro e w6 ⟨qg, qo, hb6, rfl⟩
  have hbw6 := nx hbw5 hb6
  replace hx0 := heap_keep hb6 hx0
  replace hy5 := heap_keep hb6 hy5
  clear hx0a hx0b hx0c hx0f hx0g
  obtain ⟨hx0a, hx0b, hx0c⟩ := two_facts hx0
  obtain ⟨hx0f, hx0g⟩ := two_frozen hx0
  clear hy5a hy5b hy5c hy5f hy5g
  obtain ⟨hy5a, hy5b, hy5c⟩ := two_facts hy5
  obtain ⟨hy5f, hy5g⟩ := two_frozen hy5
  clear hb6 hbw5
  go_wp2_with fail
  refine (toPair_any a0 b0 _).mono ?_; rintro e w7 ⟨rfl, hb7⟩
  have hbw7 := nx hbw6 hb7
  replace hx0 := heap_keep hb7 hx0
  replace hy5 := heap_keep hb7 hy5
  clear hx0a hx0b hx0c hx0f hx0g
  obtain ⟨hx0a, hx0b, hx0c⟩ := two_facts hx0
  obtain ⟨hx0f, hx0g⟩ := two_frozen hx0
  clear hy5a hy5b hy5c hy5f hy5g
  obtain ⟨hy5a, hy5b, hy5c⟩ := two_facts hy5
  obtain ⟨hy5f, hy5g⟩ := two_frozen hy5
  replace qo := qo.keep hb7
  clear hb7 hbw6
  go_wp2_with fail
  refine (hI' _ _ _ qo.cells).mono ?_; rintro e w8 ⟨rfl, hb8⟩
  have hbw8 := nx hbw7 hb8
  replace hx0 := heap_keep hb8 hx0
  replace hy5 := heap_keep hb8 hy5
  clear hx0a hx0b hx0c hx0f hx0g
  obtain ⟨hx0a, hx0b, hx0c⟩ := two_facts hx0
  obtain ⟨hx0f, hx0g⟩ := two_frozen hx0
  clear hy5a hy5b hy5c hy5f hy5g
  obtain ⟨hy5a, hy5b, hy5c⟩ := two_facts hy5
  obtain ⟨hy5f, hy5g⟩ := two_frozen hy5
  replace qo := qo.keep hb8
  clear hb8 hbw7
  go_wp2_with fail
  replace qo := OwnI.keep qo (nxAlloc (Below.refl _ _) (.cells #[.string A, .string B] 35 (0, 0)))
  have hbw9 := nxAlloc hbw8 (.cells #[.string A, .string B] 35 (0, 0))
  replace hx0 := heap_keep (nxAlloc (Below.refl _ _) (.cells #[.string A, .string B] 35 (0, 0))) hx0
  replace hy5 := heap_keep (nxAlloc (Below.refl _ _) (.cells #[.string A, .string B] 35 (0, 0))) hy5
  have hy9 := heap_alloc_at w8 (.cells #[.string A, .string B] 35 (0, 0))
  generalize w8.alloc (.cells #[.string A, .string B] 35 (0, 0)) = w9 at *
  clear hbw8
  clear hx0a hx0b hx0c hx0f hx0g
  obtain ⟨hx0a, hx0b, hx0c⟩ := two_facts hx0
  obtain ⟨hx0f, hx0g⟩ := two_frozen hx0
  clear hy5a hy5b hy5c hy5f hy5g
  obtain ⟨hy5a, hy5b, hy5c⟩ := two_facts hy5
  obtain ⟨hy5f, hy5g⟩ := two_frozen hy5
  obtain ⟨hy9a, hy9b, hy9c⟩ := two_facts hy9
  obtain ⟨hy9f, hy9g⟩ := two_frozen hy9
  go_wp2_with fail
  refine (eqPair_same A B _).mono ?_; rintro e w10 ⟨rfl, hb10⟩
  have hbw10 := nx hbw9 hb10
  replace hx0 := heap_keep hb10 hx0
  replace hy5 := heap_keep hb10 hy5
  replace hy9 := heap_keep hb10 hy9
  clear hx0a hx0b hx0c hx0f hx0g
  obtain ⟨hx0a, hx0b, hx0c⟩ := two_facts hx0
  obtain ⟨hx0f, hx0g⟩ := two_frozen hx0
  clear hy5a hy5b hy5c hy5f hy5g
  obtain ⟨hy5a, hy5b, hy5c⟩ := two_facts hy5
  obtain ⟨hy5f, hy5g⟩ := two_frozen hy5
  clear hy9a hy9b hy9c hy9f hy9g
  obtain ⟨hy9a, hy9b, hy9c⟩ := two_facts hy9
  obtain ⟨hy9f, hy9g⟩ := two_frozen hy9
  replace qo := qo.keep hb10
  clear hb10 hbw9
  go_wp2_with fail
  refine (hT _ (HI.out.keep hbw10)).mono ?_; rintro e w11 ⟨rg, ro, hb11, rfl⟩
  have hbw11 := nx hbw10 hb11
  replace hx0 := heap_keep hb11 hx0
  replace hy5 := heap_keep hb11 hy5
  replace hy9 := heap_keep hb11 hy9
  clear hx0a hx0b hx0c hx0f hx0g
  obtain ⟨hx0a, hx0b, hx0c⟩ := two_facts hx0
  obtain ⟨hx0f, hx0g⟩ := two_frozen hx0
  clear hy5a hy5b hy5c hy5f hy5g
  obtain ⟨hy5a, hy5b, hy5c⟩ := two_facts hy5
  obtain ⟨hy5f, hy5g⟩ := two_frozen hy5
  clear hy9a hy9b hy9c hy9f hy9g
  obtain ⟨hy9a, hy9b, hy9c⟩ := two_facts hy9
  obtain ⟨hy9f, hy9g⟩ := two_frozen hy9
  replace qo := qo.keep hb11
  clear hb11 hbw10
  go_wp2_with fail
  refine (eqIntS_any _ _ _ _ L _ qo.cells ro.cells).mono ?_; rintro e wz ⟨rfl, dz, rfl⟩
  go_wp2_with fail
  go_ret
  exact ⟨rfl, drewB hbw11 _⟩

theorem fnExactReduceBy_walk (W : World) (a0a : ByteArray) (w0a : a0a.size ≤ maxLen) (a0b : ByteArray) (w0b : a0b.size ≤ maxLen) (a : Option Addr) (len cap : Nat) (z : List Int) (h : IsInts W a len cap z) :
    Calls Try.prog 8 #[.agg #[.string a0a, .string a0b], .slice a len cap] W fun e w' => e = .returned (.bool true) ∧ Below W.heap.size W w' := by
  obtain ⟨h1, h2, h3, h4⟩ := h.inI
  exact reduceBy_law a0a w0a a0b w0b W a len cap (z.take len) h2 h3 h4 h1
end Go.Proofs.Ytbeailflcinilaa
