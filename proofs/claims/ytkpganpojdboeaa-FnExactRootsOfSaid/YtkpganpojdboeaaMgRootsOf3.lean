/- Texts that the claim needs, part 4. -/
import Derived.Test.YtkpganpojdboeaaMgRootsOf2
import Derived.Deep.RegionHeld3
import Derived.Maps.AppendAt
import Derived.Laws.AppendOwnNone
import Derived.BigQuiet
/-! Times -/
namespace Go.Proofs.Ytkpganpojdboeaa
open Go.RowKit

theorem keep_cell {w w' : World} {b o : Nat} {v : Value} (hb : Below w.heap.size w w') (h : w.cell? ⟨b, o, none⟩ = some v) : w'.cell? ⟨b, o, none⟩ = some v :=
  (hb.cell (p := ⟨b, o, none⟩) (World.block_lt_of_cell? _ _ h)).trans h

theorem treeOf_any (t : Tr) (w : World) (h : t.carets ≤ 1000) : Calls Try.prog 63 #[.string t.str] w (GivesNode t w) := by
  have hz := t.str_size
  have hp := place_any (t.str.size + 1) t.str
  rw [parse_str t _ (by have := t.text_len; omega)] at hp
  have hp' : ∀ w, Calls Try.prog 95 #[.string t.str] w (PlaceOk t [] t.str w) := fun w => hp w (by omega) (by omega)
  clear hz hp
  go_enter Try.func63, Try.ntmps63
  go_wp2_with fail
  refine (hp' _).mono ?_; rintro e w1 ⟨b1, s1, hs1, hz1, hn1, hb1, rfl⟩
  clear hs1 hz1
  go_wp2_with fail
  go_ret
  exact ⟨b1, hn1, hb1, rfl⟩

/-- What is asked of the factors of a product, and what its parts are. -/
theorem raw_len {p q : Pr} (hp : okP p) (hq : okP q) : (subsS p.2 (p.2.join q.1)).length = p.1.leaves ∧ (subsS q.1 (p.2.join q.1)).length = q.2.leaves := by
  have h1 := subsS_length p.2 _ (part_join p.2 q.1)
  have h2 := subsS_length q.1 _ (part_join' p.2 q.1)
  unfold okP Tr.leaves at *
  omega
theorem raw_fill1 {p q : Pr} (hp : okP p) (hq : okP q) : fillB p.1.str (subsS p.2 (p.2.join q.1)) = (rawP p q).1.str :=
  fillB_tr p.1 _ (by have := (raw_len hp hq).1; unfold subsS at this; simpa using this)
theorem raw_fill2 {p q : Pr} (hp : okP p) (hq : okP q) : fillB q.2.str (subsS q.1 (p.2.join q.1)) = (rawP p q).2.str :=
  fillB_tr q.2 _ (by have := (raw_len hp hq).2; unfold subsS at this; simpa using this)
theorem fillL_of {s : ByteArray} {us : List ByteArray} {t : Tr} (h : fillB s us = t.str) : fillL s.data.toList us = t.text := by
  have := congrArg (fun b : ByteArray => b.data.toList) h
  simpa [fillB, Tr.str] using this
theorem text_ne (t : Tr) : t.text ≠ [] := by cases t <;> simp [Tr.text]

theorem prFill_raw1 {p q : Pr} (hp : okP p) (hq : okP q) (h1 : p.1.carets ≤ 30) (h2 : q.1.carets ≤ 30) (b1 : Nat) (v : Value) (w : World) (hv : CellsS b1 w v (subsS p.2 (p.2.join q.1))) :
    Calls Try.prog 102 #[.string p.1.str, v] w (Gives (.string (rawP p q).1.str) w) := by
  have hl := raw_len hp hq
  have hr := rawP_carets hp hq
  have hj := join_carets p.2 q.1
  have ht := (rawP p q).1.text_len
  unfold okP at hp hq
  have hz := p.1.str_size
  unfold Tr.leaves at hl
  have := prFill_any b1 p.1.str v _ w (by omega) hv (by rw [Tr.str_list, text_dots]; omega) (by omega) (by rw [fillL_of (raw_fill1 hp hq)]; omega)
  rwa [raw_fill1 hp hq] at this

theorem prFill_raw2 {p q : Pr} (hp : okP p) (hq : okP q) (h1 : p.1.carets ≤ 30) (h2 : q.1.carets ≤ 30) (b1 : Nat) (v : Value) (w : World) (hv : CellsS b1 w v (subsS q.1 (p.2.join q.1))) :
    Calls Try.prog 102 #[.string q.2.str, v] w (Gives (.string (rawP p q).2.str) w) := by
  have hl := raw_len hp hq
  have hr := rawP_carets hp hq
  have hj := join_carets p.2 q.1
  have ht := (rawP p q).2.text_len
  unfold okP at hp hq
  have hz := q.2.str_size
  unfold Tr.leaves at hl
  have := prFill_any b1 q.2.str v _ w (by omega) hv (by rw [Tr.str_list, text_dots]; omega) (by omega) (by rw [fillL_of (raw_fill2 hp hq)]; omega)
  rwa [raw_fill2 hp hq] at this

theorem withLeaves_raw1 {p q : Pr} (hp : okP p) (hq : okP q) (h1 : p.1.carets ≤ 30) (h2 : q.1.carets ≤ 30) (b1 : Nat) (v : Value) (w : World) (hv : CellsS b1 w v (subsS p.2 (p.2.join q.1))) :
    Calls Try.prog 106 #[.string p.1.str, v] w (Gives (.string (rawP p q).1.str) w) := by
  have hl := raw_len hp hq
  have hr := rawP_carets hp hq
  have hj := join_carets p.2 q.1
  have ht := (rawP p q).1.text_len
  unfold okP at hp hq
  have hz := p.1.str_size
  unfold Tr.leaves at hl
  have := withLeaves_any b1 p.1.str v _ w (by omega) hv (by rw [Tr.str_list, text_dots]; omega) (by omega) (by rw [fillL_of (raw_fill1 hp hq)]; omega) (by rw [fillL_of (raw_fill1 hp hq)]; exact text_ne _)
  rwa [raw_fill1 hp hq] at this

theorem withLeaves_raw2 {p q : Pr} (hp : okP p) (hq : okP q) (h1 : p.1.carets ≤ 30) (h2 : q.1.carets ≤ 30) (b1 : Nat) (v : Value) (w : World) (hv : CellsS b1 w v (subsS q.1 (p.2.join q.1))) :
    Calls Try.prog 106 #[.string q.2.str, v] w (Gives (.string (rawP p q).2.str) w) := by
  have hl := raw_len hp hq
  have hr := rawP_carets hp hq
  have hj := join_carets p.2 q.1
  have ht := (rawP p q).2.text_len
  unfold okP at hp hq
  have hz := q.2.str_size
  unfold Tr.leaves at hl
  have := withLeaves_any b1 q.2.str v _ w (by omega) hv (by rw [Tr.str_list, text_dots]; omega) (by omega) (by rw [fillL_of (raw_fill2 hp hq)]; omega) (by rw [fillL_of (raw_fill2 hp hq)]; exact text_ne _)
  rwa [raw_fill2 hp hq] at this

set_option maxRecDepth 100000 in
set_option maxHeartbeats 4000000 in
theorem product_any (p q : Pr) (w : World) (hp : okP p) (hq : okP q) (h1 : p.1.carets ≤ 30) (h2 : q.1.carets ≤ 30) :
    Calls Try.prog 75 #[.agg #[.string p.1.str, .string p.2.str], .agg #[.string q.1.str, .string q.2.str]] w (Gives (.agg #[.string (mulP p q).1.str, .string (mulP p q).2.str]) w) := by
  have hr := rawP_carets hp hq
  have hj := join_carets p.2 q.1
  have hp' : p.1.carets = p.2.carets := hp
  have hq' : q.1.carets = q.2.carets := hq
  have T1 := fun w => treeOf_any p.2 w (by omega)
  have T2 := fun w => treeOf_any q.1 w (by omega)
  have W1 := fun b v w h => withLeaves_raw1 hp hq h1 h2 b v w h
  have W2 := fun b v w h => withLeaves_raw2 hp hq h1 h2 b v w h
  have RR : ∀ w, Calls Try.prog 88 #[.agg #[.string (rawP p q).1.str, .string (rawP p q).2.str], .func (Fn.func 89) #[] #[]] w (Gives (.agg #[.string (mulP p q).1.str, .string (mulP p q).2.str]) w) := fun w => reducedBy_first (rawP p q) w (by omega) (by omega)
  have PJ1 := part_join p.2 q.1
  have PJ2 := part_join' p.2 q.1
  have hjc : (p.2.join q.1).carets ≤ 60 := by omega
  clear hr hj
  go_enter Try.func75, Try.ntmps75
  go_wp2_with fail
  have hb0 : Below w.heap.size w (((w.alloc (.cells #[.string p.1.str, .string p.2.str] 25 (0, 0))).alloc (.cells #[.string q.1.str, .string q.2.str] 25 (0, 0))).alloc (.cells #[.string ⟨#[]⟩, .string ⟨#[]⟩] 25 (0, 0))) := nxAlloc (nxAlloc (nxAlloc (Below.refl _ _) _) _) _
  have hx0 := heap_keep (nxAlloc (Below.refl _ _) (.cells #[.string ⟨#[]⟩, .string ⟨#[]⟩] 25 (0, 0))) (heap_keep (nxAlloc (Below.refl _ _) (.cells #[.string q.1.str, .string q.2.str] 25 (0, 0))) (heap_alloc_at w (.cells #[.string p.1.str, .string p.2.str] 25 (0, 0))))
  have hx1 := heap_keep (nxAlloc (Below.refl _ _) (.cells #[.string ⟨#[]⟩, .string ⟨#[]⟩] 25 (0, 0))) (heap_alloc_at (w.alloc (.cells #[.string p.1.str, .string p.2.str] 25 (0, 0))) (.cells #[.string q.1.str, .string q.2.str] 25 (0, 0)))
  have hx2 := heap_alloc_at ((w.alloc (.cells #[.string p.1.str, .string p.2.str] 25 (0, 0))).alloc (.cells #[.string q.1.str, .string q.2.str] 25 (0, 0))) (.cells #[.string ⟨#[]⟩, .string ⟨#[]⟩] 25 (0, 0))
  generalize (((w.alloc (.cells #[.string p.1.str, .string p.2.str] 25 (0, 0))).alloc (.cells #[.string q.1.str, .string q.2.str] 25 (0, 0))).alloc (.cells #[.string ⟨#[]⟩, .string ⟨#[]⟩] 25 (0, 0))) = w0 at *
  have e1 : (w.alloc (.cells #[.string p.1.str, .string p.2.str] 25 (0, 0))).heap.size = w.heap.size + 1 := by simp
  rw [e1] at hx1
  clear e1
  have e2 : ((w.alloc (.cells #[.string p.1.str, .string p.2.str] 25 (0, 0))).alloc (.cells #[.string q.1.str, .string q.2.str] 25 (0, 0))).heap.size = w.heap.size + 1 + 1 := by simp
  rw [e2] at hx2
  clear e2
  obtain ⟨hx0a, hx0b, hx0c⟩ := two_facts hx0
  obtain ⟨hx0f, hx0g⟩ := two_frozen hx0
  obtain ⟨hx1a, hx1b, hx1c⟩ := two_facts hx1
  obtain ⟨hx1f, hx1g⟩ := two_frozen hx1
  obtain ⟨hx2a, hx2b, hx2c⟩ := two_facts hx2
  obtain ⟨hx2f, hx2g⟩ := two_frozen hx2
  have hz0 := Below.refl w0.heap.size w0
  go_region_held3 (fun w' => w'.cell? ⟨w.heap.size, 1, none⟩ = some (.string p.2.str) ∧ w'.cell? ⟨w.heap.size + 1, 0, none⟩ = some (.string q.1.str))
    (first
      | exact ⟨hx0b, hx1a⟩
      | exact ⟨A1, A2⟩
      | exact ⟨B1, B2⟩)
    (first
      | (go_at_call 63; (with_reducible refine (T1 _).mono ?_); rintro e w1 ⟨b1, hn1, hb1, rfl⟩; have hb1' := nx hz0.drew hb1; have A1 := keep_cell hb1' hx0b; have A2 := keep_cell hb1' hx1a)
      | (go_at_call 63; (with_reducible refine (T2 _).mono ?_); rintro e w2 ⟨b2, hn2, hb2, rfl⟩; have hb2' := nx hb1' hb2; have B1 := keep_cell hb2' hx0b; have B2 := keep_cell hb2' hx1a))
  go_wp2_with fail
  have hn1' := hn1.keep hb2
  refine (join_any p.2 q.1 b1 b2 _ hn1' hn2).mono ?_; rintro e w3 ⟨b3, hn3, hb3, rfl⟩
  have hbw3 := nx hb0 (nx hb2' hb3)
  have m1 := hn1'.keep hb3
  have m2 := hn2.keep hb3
  have hy0 := heap_keep (nx hb2' hb3) hx0
  have hy1 := heap_keep (nx hb2' hb3) hx1
  have hy2 := heap_keep (nx hb2' hb3) hx2
  have hb00 := Below.refl w3.heap.size w3
  clear hx0 hx1 hx2 hx0a hx0b hx0c hx0f hx0g hx1a hx1b hx1c hx1f hx1g hx2a hx2b hx2c hx2f hx2g A1 A2 B1 B2 hn1 hn2 hn1' hb1 hb2 hb1' hb2' hb3 hz0 hb0 T1 T2
  obtain ⟨k1, _⟩ := two_cells hy0
  obtain ⟨_, k2⟩ := two_cells hy1
  generalize hJ : p.2.join q.1 = J at *
  clear hJ
  go_wp2_with fail
  go_region_held3 (fun w' => w'.cell? ⟨w.heap.size, 0, none⟩ = some (.string p.1.str) ∧ w'.cell? ⟨w.heap.size + 1, 1, none⟩ = some (.string q.2.str))
    (first
      | exact ⟨k1, k2⟩
      | exact ⟨A1, A2⟩
      | exact ⟨B1, B2⟩
      | exact ⟨C1, C2⟩
      | exact ⟨D1, D2⟩
      | exact ⟨E1, E2⟩
      | exact ⟨G1, G2⟩)
    (first
      | (go_at_call_of 107 (some (⟨b1, 0, none⟩ : Addr)); refine (below_any p.2 J b1 b3 _ ?_ ?_ PJ1 hjc).mono ?_; exact m1.keep hb00.drew; exact hn3.keep hb00.drew; rintro e w4 ⟨g1, cap1, own1, hb4, rfl⟩; have hb4' := nx hb00.drew hb4; have A1 := keep_cell hb4' k1; have A2 := keep_cell hb4' k2)
      | (go_at_call_of 106 (some (⟨g1, 0, none⟩ : Addr)); refine (W1 _ _ _ own1.cells).mono ?_; rintro e w5 ⟨rfl, hb5⟩; have hb5' := nx hb4' hb5; have B1 := keep_cell hb5' k1; have B2 := keep_cell hb5' k2)
      | (go_at_call_of 107 (some (⟨b2, 0, none⟩ : Addr)); refine (below_any q.1 J b2 b3 _ ?_ ?_ PJ2 hjc).mono ?_; exact m2.keep hb5'; exact hn3.keep hb5'; rintro e w6 ⟨g2, cap2, own2, hb6, rfl⟩; have hb6' := nx hb5' hb6; have C1 := keep_cell hb6' k1; have C2 := keep_cell hb6' k2)
      | (go_at_call_of 106 (some (⟨g2, 0, none⟩ : Addr)); refine (W2 _ _ _ own2.cells).mono ?_; rintro e w7 ⟨rfl, hb7⟩; have hb7' := nx hb6' hb7; have D1 := keep_cell hb7' k1; have D2 := keep_cell hb7' k2)
      | (go_at_call 88; refine (RR _).mono ?_; rintro e w8 ⟨rfl, hb8⟩; have hb8' := nx hb7' hb8; have E1 := keep_cell hb8' k1; have E2 := keep_cell hb8' k2; have hz2 := heap_keep hb8' hy2; have hz0 := heap_keep hb8' hy0; have hz1 := heap_keep hb8' hy1; obtain ⟨n1, n2⟩ := two_cells hz2; obtain ⟨f1, f2⟩ := two_frozen hz2; have hq0 := (Below.heap_setCell (w8.setCell ⟨w.heap.size + 1 + 1, 0, none⟩ (.string (mulP p q).1.str)) ⟨w.heap.size + 1 + 1, 1, none⟩ (.string (mulP p q).2.str) w.heap.size (by show ¬ w.heap.size = w.heap.size + 1 + 1; omega)).trans ((Below.heap_setCell w8 ⟨w.heap.size + 1 + 1, 0, none⟩ (.string (mulP p q).1.str) w.heap.size (by show ¬ w.heap.size = w.heap.size + 1 + 1; omega)).trans hz0); have hq1 := (Below.heap_setCell (w8.setCell ⟨w.heap.size + 1 + 1, 0, none⟩ (.string (mulP p q).1.str)) ⟨w.heap.size + 1 + 1, 1, none⟩ (.string (mulP p q).2.str) (w.heap.size + 1) (by show ¬ w.heap.size + 1 = w.heap.size + 1 + 1; omega)).trans ((Below.heap_setCell w8 ⟨w.heap.size + 1 + 1, 0, none⟩ (.string (mulP p q).1.str) (w.heap.size + 1) (by show ¬ w.heap.size + 1 = w.heap.size + 1 + 1; omega)).trans hz1); have G1 := (two_cells hq0).1; have G2 := (two_cells hq1).2))
  go_wp2_with fail
  obtain ⟨q1, q2⟩ := two_cells (set_two (.string (mulP p q).1.str) (.string (mulP p q).2.str) hz2)
  refine bodyPost_ret (v := .agg #[.string (mulP p q).1.str, .string (mulP p q).2.str]) (by simp [q1, q2, results, Try.results75, go_sem]) rfl ⟨rfl, ?_⟩
  exact ((nx hbw3 hb8').setCell (by show w.heap.size ≤ w.heap.size + 1 + 1; omega) _).setCell (by show w.heap.size ≤ w.heap.size + 1 + 1; omega) _

set_option maxRecDepth 100000 in
set_option maxHeartbeats 4000000 in
theorem prTimes_any (p q : Pr) (w : World) (hp : okP p) (hq : okP q) (h1 : p.1.carets ≤ 30) (h2 : q.1.carets ≤ 30) :
    Calls Try.prog 71 #[.agg #[.string p.1.str, .string p.2.str], .agg #[.string q.1.str, .string q.2.str]] w (Gives (.agg #[.string (mulP p q).1.str, .string (mulP p q).2.str]) w) := by
  have hr := rawP_carets hp hq
  have hj := join_carets p.2 q.1
  have hp' : p.1.carets = p.2.carets := hp
  have hq' : q.1.carets = q.2.carets := hq
  have W1 := fun b v w h => prFill_raw1 hp hq h1 h2 b v w h
  have W2 := fun b v w h => prFill_raw2 hp hq h1 h2 b v w h
  have RR : ∀ w, Calls Try.prog 55 #[.agg #[.string (rawP p q).1.str, .string (rawP p q).2.str], .slice none 0 0] w (Gives (.agg #[.string (mulP p q).1.str, .string (mulP p q).2.str]) w) := fun w => prReduce_nil (rawP p q) w (by omega) (by omega)
  have P1 := fun w => prParts_any p.2 (p.2.join q.1) w (part_join p.2 q.1) (by omega)
  have P2 := fun w => prParts_any q.1 (p.2.join q.1) w (part_join' p.2 q.1) (by omega)
  have J := fun w => trJoin_any p.2 q.1 w (by omega) (by omega)
  clear hr hj
  go_enter Try.func71, Try.ntmps71
  go_wp2_with fail
  have hb0 : Below w.heap.size w (((w.alloc (.cells #[.string p.1.str, .string p.2.str] 25 (0, 0))).alloc (.cells #[.string q.1.str, .string q.2.str] 25 (0, 0))).alloc (.cells #[.string ⟨#[]⟩, .string ⟨#[]⟩] 25 (0, 0))) := nxAlloc (nxAlloc (nxAlloc (Below.refl _ _) _) _) _
  have hx0 := heap_keep (nxAlloc (Below.refl _ _) (.cells #[.string ⟨#[]⟩, .string ⟨#[]⟩] 25 (0, 0))) (heap_keep (nxAlloc (Below.refl _ _) (.cells #[.string q.1.str, .string q.2.str] 25 (0, 0))) (heap_alloc_at w (.cells #[.string p.1.str, .string p.2.str] 25 (0, 0))))
  have hx1 := heap_keep (nxAlloc (Below.refl _ _) (.cells #[.string ⟨#[]⟩, .string ⟨#[]⟩] 25 (0, 0))) (heap_alloc_at (w.alloc (.cells #[.string p.1.str, .string p.2.str] 25 (0, 0))) (.cells #[.string q.1.str, .string q.2.str] 25 (0, 0)))
  have hx2 := heap_alloc_at ((w.alloc (.cells #[.string p.1.str, .string p.2.str] 25 (0, 0))).alloc (.cells #[.string q.1.str, .string q.2.str] 25 (0, 0))) (.cells #[.string ⟨#[]⟩, .string ⟨#[]⟩] 25 (0, 0))
  generalize (((w.alloc (.cells #[.string p.1.str, .string p.2.str] 25 (0, 0))).alloc (.cells #[.string q.1.str, .string q.2.str] 25 (0, 0))).alloc (.cells #[.string ⟨#[]⟩, .string ⟨#[]⟩] 25 (0, 0))) = w0 at *
  have e1 : (w.alloc (.cells #[.string p.1.str, .string p.2.str] 25 (0, 0))).heap.size = w.heap.size + 1 := by simp
  rw [e1] at hx1
  clear e1
  have e2 : ((w.alloc (.cells #[.string p.1.str, .string p.2.str] 25 (0, 0))).alloc (.cells #[.string q.1.str, .string q.2.str] 25 (0, 0))).heap.size = w.heap.size + 1 + 1 := by simp
  rw [e2] at hx2
  clear e2
  obtain ⟨hx0a, hx0b, hx0c⟩ := two_facts hx0
  obtain ⟨hx0f, hx0g⟩ := two_frozen hx0
  obtain ⟨hx1a, hx1b, hx1c⟩ := two_facts hx1
  obtain ⟨hx1f, hx1g⟩ := two_frozen hx1
  obtain ⟨hx2a, hx2b, hx2c⟩ := two_facts hx2
  obtain ⟨hx2f, hx2g⟩ := two_frozen hx2
  refine (J _).mono ?_; rintro e w1 ⟨rfl, hb1⟩
  have hbw1 := nx hb0 hb1
  replace hx0 := heap_keep hb1 hx0
  replace hx1 := heap_keep hb1 hx1
  replace hx2 := heap_keep hb1 hx2
  clear hx0a hx0b hx0c hx0f hx0g
  obtain ⟨hx0a, hx0b, hx0c⟩ := two_facts hx0
  obtain ⟨hx0f, hx0g⟩ := two_frozen hx0
  clear hx1a hx1b hx1c hx1f hx1g
  obtain ⟨hx1a, hx1b, hx1c⟩ := two_facts hx1
  obtain ⟨hx1f, hx1g⟩ := two_frozen hx1
  clear hx2a hx2b hx2c hx2f hx2g
  obtain ⟨hx2a, hx2b, hx2c⟩ := two_facts hx2
  obtain ⟨hx2f, hx2g⟩ := two_frozen hx2
  clear hb1 hb0
  have hb00 := Below.refl w1.heap.size w1
  generalize p.2.join q.1 = G at *
  go_wp2_with fail
  go_region_held3 (fun w' => w'.cell? ⟨w.heap.size, 0, none⟩ = some (.string p.1.str) ∧ w'.cell? ⟨w.heap.size, 1, none⟩ = some (.string p.2.str) ∧ w'.cell? ⟨w.heap.size + 1, 0, none⟩ = some (.string q.1.str) ∧ w'.cell? ⟨w.heap.size + 1, 1, none⟩ = some (.string q.2.str))
    (first
      | exact ⟨hx0a, hx0b, hx1a, hx1b⟩
      | exact ⟨A1.1, A1.2, A2.1, A2.2⟩
      | exact ⟨B1.1, B1.2, B2.1, B2.2⟩
      | exact ⟨C1.1, C1.2, C2.1, C2.2⟩
      | exact ⟨D1.1, D1.2, D2.1, D2.2⟩
      | exact ⟨E1.1, E1.2, E2.1, E2.2⟩
      | exact ⟨G1.1, G1.2, G2.1, G2.2⟩)
    (first
      | (go_at_call 103; (with_reducible refine (P1 _).mono ?_); rintro e w4 ⟨g1, cap1, own1, hb4, rfl⟩; have hb4' := nx hb00.drew hb4; have A1 := two_cells (heap_keep hb4' hx0); have A2 := two_cells (heap_keep hb4' hx1))
      | (go_at_call_of 102 (some (⟨g1, 0, none⟩ : Addr)); refine (W1 _ _ _ own1.cells).mono ?_; rintro e w5 ⟨rfl, hb5⟩; have hb5' := nx hb4' hb5; have B1 := two_cells (heap_keep hb5' hx0); have B2 := two_cells (heap_keep hb5' hx1))
      | (go_at_call 103; (with_reducible refine (P2 _).mono ?_); rintro e w6 ⟨g2, cap2, own2, hb6, rfl⟩; have hb6' := nx hb5' hb6; have C1 := two_cells (heap_keep hb6' hx0); have C2 := two_cells (heap_keep hb6' hx1))
      | (go_at_call_of 102 (some (⟨g2, 0, none⟩ : Addr)); refine (W2 _ _ _ own2.cells).mono ?_; rintro e w7 ⟨rfl, hb7⟩; have hb7' := nx hb6' hb7; have D1 := two_cells (heap_keep hb7' hx0); have D2 := two_cells (heap_keep hb7' hx1))
      | (go_at_call 55; refine (RR _).mono ?_; rintro e w8 ⟨rfl, hb8⟩; have hb8' := nx hb7' hb8; have hz0 := heap_keep hb8' hx0; have hz1 := heap_keep hb8' hx1; have hz2 := heap_keep hb8' hx2; have E1 := two_cells hz0; have E2 := two_cells hz1; obtain ⟨n1, n2⟩ := two_cells hz2; obtain ⟨f1, f2⟩ := two_frozen hz2; have hq0 := (Below.heap_setCell (w8.setCell ⟨w.heap.size + 1 + 1, 0, none⟩ (.string (mulP p q).1.str)) ⟨w.heap.size + 1 + 1, 1, none⟩ (.string (mulP p q).2.str) w.heap.size (by show ¬ w.heap.size = w.heap.size + 1 + 1; omega)).trans ((Below.heap_setCell w8 ⟨w.heap.size + 1 + 1, 0, none⟩ (.string (mulP p q).1.str) w.heap.size (by show ¬ w.heap.size = w.heap.size + 1 + 1; omega)).trans hz0); have hq1 := (Below.heap_setCell (w8.setCell ⟨w.heap.size + 1 + 1, 0, none⟩ (.string (mulP p q).1.str)) ⟨w.heap.size + 1 + 1, 1, none⟩ (.string (mulP p q).2.str) (w.heap.size + 1) (by show ¬ (w.heap.size + 1) = w.heap.size + 1 + 1; omega)).trans ((Below.heap_setCell w8 ⟨w.heap.size + 1 + 1, 0, none⟩ (.string (mulP p q).1.str) (w.heap.size + 1) (by show ¬ (w.heap.size + 1) = w.heap.size + 1 + 1; omega)).trans hz1); have G1 := two_cells hq0; have G2 := two_cells hq1))
  go_wp2_with fail
  obtain ⟨q1, q2⟩ := two_cells (set_two (.string (mulP p q).1.str) (.string (mulP p q).2.str) hz2)
  refine bodyPost_ret (v := .agg #[.string (mulP p q).1.str, .string (mulP p q).2.str]) (by simp [q1, q2, results, Try.results71, go_sem]) rfl ⟨rfl, ?_⟩
  exact ((nx hbw1 hb8').setCell (by show w.heap.size ≤ w.heap.size + 1 + 1; omega) _).setCell (by show w.heap.size ≤ w.heap.size + 1 + 1; omega) _
end Go.Proofs.Ytkpganpojdboeaa

/-! LimP -/
namespace Go.Proofs.Ytkpganpojdboeaa
open Go.RowKit

/-- A pair, if its trees have no more carets than allowed. -/
def limP (p : Pr) : Option Pr := if p.1.carets ≤ 8 then some p else none
theorem treeOf_big {t : Tr} (h : 8 < t.carets) : treeOf t.str = none := by
  unfold treeOf
  rw [parse_str t _ (by have := t.str_size; have := t.text_len; omega)]
  show (if t.carets ≤ 8 then some t else none) = none
  rw [if_neg (by omega)]
theorem pairOf_lim {p : Pr} (h : okP p) : pairOf p.1.str p.2.str = limP p := by
  unfold limP
  by_cases hc : p.1.carets ≤ 8
  · rw [if_pos hc, pairOf_str h hc]
  · rw [if_neg hc]
    unfold pairOf
    rw [treeOf_big (by omega)]

set_option maxHeartbeats 1000000 in
theorem prIf_any (p : Pr) (w : World) (hok : okP p) (hz : p.1.carets ≤ 1000) :
    Calls Try.prog 44 #[.agg #[.string p.1.str, .string p.2.str]] w (Gives (ansPr (limP p)) w) := by
  have hz2 : p.2.carets ≤ 1000 := by unfold okP at hok; omega
  have s1 := p.1.str_size
  have s2 := p.2.str_size
  have hg := fun w => prGood_any p.1.str p.2.str w (by omega) (by omega)
  rw [pairOf_lim hok] at hg
  clear s1 s2
  cases h : limP p with
  | none =>
    rw [h] at hg
    clear h
    go_enter Try.func44, Try.ntmps44
    go_wp2_with fail
    have hb0 : Below w.heap.size w ((w.alloc (.cells #[.string p.1.str, .string p.2.str] 25 (0, 0))).alloc (.cells #[.string ⟨#[]⟩, .string ⟨#[]⟩] 25 (0, 0))) := nxAlloc (nxAlloc (Below.refl _ _) _) _
    have hx0 := heap_keep (nxAlloc (Below.refl _ _) (.cells #[.string ⟨#[]⟩, .string ⟨#[]⟩] 25 (0, 0))) (heap_alloc_at w (.cells #[.string p.1.str, .string p.2.str] 25 (0, 0)))
    have hx1 := heap_alloc_at (w.alloc (.cells #[.string p.1.str, .string p.2.str] 25 (0, 0))) (.cells #[.string ⟨#[]⟩, .string ⟨#[]⟩] 25 (0, 0))
    generalize ((w.alloc (.cells #[.string p.1.str, .string p.2.str] 25 (0, 0))).alloc (.cells #[.string ⟨#[]⟩, .string ⟨#[]⟩] 25 (0, 0))) = w0 at *
    have e1 : (w.alloc (.cells #[.string p.1.str, .string p.2.str] 25 (0, 0))).heap.size = w.heap.size + 1 := by simp
    rw [e1] at hx1
    clear e1
    obtain ⟨hx0a, hx0b, hx0c⟩ := two_facts hx0
    obtain ⟨hx0f, hx0g⟩ := two_frozen hx0
    obtain ⟨hx1a, hx1b, hx1c⟩ := two_facts hx1
    obtain ⟨hx1f, hx1g⟩ := two_frozen hx1
    refine (hg _).mono ?_; rintro e w1 ⟨rfl, hb1⟩
    have hbw1 := nx hb0 hb1
    replace hx0 := heap_keep hb1 hx0
    replace hx1 := heap_keep hb1 hx1
    clear hx0a hx0b hx0c hx0f hx0g
    obtain ⟨hx0a, hx0b, hx0c⟩ := two_facts hx0
    obtain ⟨hx0f, hx0g⟩ := two_frozen hx0
    clear hx1a hx1b hx1c hx1f hx1g
    obtain ⟨hx1a, hx1b, hx1c⟩ := two_facts hx1
    obtain ⟨hx1f, hx1g⟩ := two_frozen hx1
    clear hb1 hb0
    go_wp2_with fail
    obtain ⟨q1, q2⟩ := two_cells (set_two (.string ⟨#[]⟩) (.string ⟨#[]⟩) hx1)
    refine bodyPost_ret (v := .tuple #[.agg #[.string ⟨#[]⟩, .string ⟨#[]⟩], .bool false]) (by simp [q1, q2, results, Try.results44, go_sem]) rfl ⟨rfl, ?_⟩
    exact (hbw1.setCell (by show w.heap.size ≤ w.heap.size + 1; omega) _).setCell (by show w.heap.size ≤ w.heap.size + 1; omega) _
  | some q =>
    have e : q = p := by
      unfold limP at h
      split at h
      · injection h with h; exact h.symm
      · simp at h
    subst e
    rw [h] at hg
    clear h
    go_enter Try.func44, Try.ntmps44
    go_wp2_with fail
    have hb0 : Below w.heap.size w ((w.alloc (.cells #[.string q.1.str, .string q.2.str] 25 (0, 0))).alloc (.cells #[.string ⟨#[]⟩, .string ⟨#[]⟩] 25 (0, 0))) := nxAlloc (nxAlloc (Below.refl _ _) _) _
    have hx0 := heap_keep (nxAlloc (Below.refl _ _) (.cells #[.string ⟨#[]⟩, .string ⟨#[]⟩] 25 (0, 0))) (heap_alloc_at w (.cells #[.string q.1.str, .string q.2.str] 25 (0, 0)))
    have hx1 := heap_alloc_at (w.alloc (.cells #[.string q.1.str, .string q.2.str] 25 (0, 0))) (.cells #[.string ⟨#[]⟩, .string ⟨#[]⟩] 25 (0, 0))
    generalize ((w.alloc (.cells #[.string q.1.str, .string q.2.str] 25 (0, 0))).alloc (.cells #[.string ⟨#[]⟩, .string ⟨#[]⟩] 25 (0, 0))) = w0 at *
    have e1 : (w.alloc (.cells #[.string q.1.str, .string q.2.str] 25 (0, 0))).heap.size = w.heap.size + 1 := by simp
    rw [e1] at hx1
    clear e1
    obtain ⟨hx0a, hx0b, hx0c⟩ := two_facts hx0
    obtain ⟨hx0f, hx0g⟩ := two_frozen hx0
    obtain ⟨hx1a, hx1b, hx1c⟩ := two_facts hx1
    obtain ⟨hx1f, hx1g⟩ := two_frozen hx1
    refine (hg _).mono ?_; rintro e w1 ⟨rfl, hb1⟩
    have hbw1 := nx hb0 hb1
    replace hx0 := heap_keep hb1 hx0
    replace hx1 := heap_keep hb1 hx1
    clear hx0a hx0b hx0c hx0f hx0g
    obtain ⟨hx0a, hx0b, hx0c⟩ := two_facts hx0
    obtain ⟨hx0f, hx0g⟩ := two_frozen hx0
    clear hx1a hx1b hx1c hx1f hx1g
    obtain ⟨hx1a, hx1b, hx1c⟩ := two_facts hx1
    obtain ⟨hx1f, hx1g⟩ := two_frozen hx1
    clear hb1 hb0
    go_wp2_with fail
    obtain ⟨q1, q2⟩ := two_cells (set_two (.string q.1.str) (.string q.2.str) hx1)
    refine bodyPost_ret (v := .tuple #[.agg #[.string q.1.str, .string q.2.str], .bool true]) (by simp [q1, q2, results, Try.results44, go_sem]) rfl ⟨rfl, ?_⟩
    exact (hbw1.setCell (by show w.heap.size ≤ w.heap.size + 1; omega) _).setCell (by show w.heap.size ≤ w.heap.size + 1; omega) _

set_option maxHeartbeats 1000000 in
theorem pairLimit_any (p : Pr) (w : World) :
    Calls Try.prog 47 #[.agg #[.string p.1.str, .string p.2.str]] w (Gives (ansPr (limP p)) w) := by
  have hg : ∀ w, Calls Try.prog 84 #[.string p.1.str] w (Gives (ansV (lim p.1)) w) := fun w => (limit_any p.1 w).mono fun _ _ ⟨h1, h2⟩ => ⟨h1, by rw [← h2]; exact Below.refl _ _⟩
  unfold lim at hg
  unfold limP
  by_cases h : p.1.carets ≤ 8
  · rw [if_pos h] at hg ⊢
    have hg' : ∀ w, Calls Try.prog 84 #[.string p.1.str] w (Gives (.tuple #[.string p.1.str, .bool true]) w) := hg
    clear hg h
    go_enter Try.func47, Try.ntmps47
    go_wp2_with fail
    have hb0 : Below w.heap.size w ((w.alloc (.cells #[.string p.1.str, .string p.2.str] 25 (0, 0))).alloc (.cells #[.string ⟨#[]⟩, .string ⟨#[]⟩] 25 (0, 0))) := nxAlloc (nxAlloc (Below.refl _ _) _) _
    have hx0 := heap_keep (nxAlloc (Below.refl _ _) (.cells #[.string ⟨#[]⟩, .string ⟨#[]⟩] 25 (0, 0))) (heap_alloc_at w (.cells #[.string p.1.str, .string p.2.str] 25 (0, 0)))
    have hx1 := heap_alloc_at (w.alloc (.cells #[.string p.1.str, .string p.2.str] 25 (0, 0))) (.cells #[.string ⟨#[]⟩, .string ⟨#[]⟩] 25 (0, 0))
    generalize ((w.alloc (.cells #[.string p.1.str, .string p.2.str] 25 (0, 0))).alloc (.cells #[.string ⟨#[]⟩, .string ⟨#[]⟩] 25 (0, 0))) = w0 at *
    have e1 : (w.alloc (.cells #[.string p.1.str, .string p.2.str] 25 (0, 0))).heap.size = w.heap.size + 1 := by simp
    rw [e1] at hx1
    clear e1
    obtain ⟨hx0a, hx0b, hx0c⟩ := two_facts hx0
    obtain ⟨hx0f, hx0g⟩ := two_frozen hx0
    obtain ⟨hx1a, hx1b, hx1c⟩ := two_facts hx1
    obtain ⟨hx1f, hx1g⟩ := two_frozen hx1
    refine (hg' _).mono ?_; rintro e w1 ⟨rfl, hb1⟩
    have hbw1 := nx hb0 hb1
    replace hx0 := heap_keep hb1 hx0
    replace hx1 := heap_keep hb1 hx1
    clear hx0a hx0b hx0c hx0f hx0g
    obtain ⟨hx0a, hx0b, hx0c⟩ := two_facts hx0
    obtain ⟨hx0f, hx0g⟩ := two_frozen hx0
    clear hx1a hx1b hx1c hx1f hx1g
    obtain ⟨hx1a, hx1b, hx1c⟩ := two_facts hx1
    obtain ⟨hx1f, hx1g⟩ := two_frozen hx1
    clear hb1 hb0
    go_wp2_with fail
    obtain ⟨q1, q2⟩ := two_cells (set_two (.string p.1.str) (.string p.2.str) hx1)
    refine bodyPost_ret (v := .tuple #[.agg #[.string p.1.str, .string p.2.str], .bool true]) (by simp [q1, q2, results, Try.results47, go_sem]) rfl ⟨rfl, ?_⟩
    exact (hbw1.setCell (by show w.heap.size ≤ w.heap.size + 1; omega) _).setCell (by show w.heap.size ≤ w.heap.size + 1; omega) _
  · rw [if_neg h] at hg ⊢
    have hg' : ∀ w, Calls Try.prog 84 #[.string p.1.str] w (Gives (.tuple #[.string ⟨#[]⟩, .bool false]) w) := hg
    clear hg h
    go_enter Try.func47, Try.ntmps47
    go_wp2_with fail
    have hb0 : Below w.heap.size w ((w.alloc (.cells #[.string p.1.str, .string p.2.str] 25 (0, 0))).alloc (.cells #[.string ⟨#[]⟩, .string ⟨#[]⟩] 25 (0, 0))) := nxAlloc (nxAlloc (Below.refl _ _) _) _
    have hx0 := heap_keep (nxAlloc (Below.refl _ _) (.cells #[.string ⟨#[]⟩, .string ⟨#[]⟩] 25 (0, 0))) (heap_alloc_at w (.cells #[.string p.1.str, .string p.2.str] 25 (0, 0)))
    have hx1 := heap_alloc_at (w.alloc (.cells #[.string p.1.str, .string p.2.str] 25 (0, 0))) (.cells #[.string ⟨#[]⟩, .string ⟨#[]⟩] 25 (0, 0))
    generalize ((w.alloc (.cells #[.string p.1.str, .string p.2.str] 25 (0, 0))).alloc (.cells #[.string ⟨#[]⟩, .string ⟨#[]⟩] 25 (0, 0))) = w0 at *
    have e1 : (w.alloc (.cells #[.string p.1.str, .string p.2.str] 25 (0, 0))).heap.size = w.heap.size + 1 := by simp
    rw [e1] at hx1
    clear e1
    obtain ⟨hx0a, hx0b, hx0c⟩ := two_facts hx0
    obtain ⟨hx0f, hx0g⟩ := two_frozen hx0
    obtain ⟨hx1a, hx1b, hx1c⟩ := two_facts hx1
    obtain ⟨hx1f, hx1g⟩ := two_frozen hx1
    refine (hg' _).mono ?_; rintro e w1 ⟨rfl, hb1⟩
    have hbw1 := nx hb0 hb1
    replace hx0 := heap_keep hb1 hx0
    replace hx1 := heap_keep hb1 hx1
    clear hx0a hx0b hx0c hx0f hx0g
    obtain ⟨hx0a, hx0b, hx0c⟩ := two_facts hx0
    obtain ⟨hx0f, hx0g⟩ := two_frozen hx0
    clear hx1a hx1b hx1c hx1f hx1g
    obtain ⟨hx1a, hx1b, hx1c⟩ := two_facts hx1
    obtain ⟨hx1f, hx1g⟩ := two_frozen hx1
    clear hb1 hb0
    go_wp2_with fail
    obtain ⟨q1, q2⟩ := two_cells (set_two (.string ⟨#[]⟩) (.string ⟨#[]⟩) hx1)
    refine bodyPost_ret (v := .tuple #[.agg #[.string ⟨#[]⟩, .string ⟨#[]⟩], .bool false]) (by simp [q1, q2, results, Try.results47, go_sem]) rfl ⟨rfl, ?_⟩
    exact (hbw1.setCell (by show w.heap.size ≤ w.heap.size + 1; omega) _).setCell (by show w.heap.size ≤ w.heap.size + 1; omega) _
end Go.Proofs.Ytkpganpojdboeaa

/-! Unit -/
namespace Go.Proofs.Ytkpganpojdboeaa
open Go.RowKit

/-- The pair of two leaves. -/
def unitP : Pr := (.lf, .lf)
/-- The product of so many, if none on the way is too great. -/
def pwN (b : Pr) : Nat → Option Pr
  | 0 => some unitP
  | k + 1 => (pwN b k).bind fun o => limP (mulP o b)
def powP (p : Pr) (k : Int) : Option Pr := if -10 ≤ k ∧ k ≤ 10 then (if k < 0 then pwN (invP p) (-k).toNat else pwN p k.toNat) else none

theorem limP_some {p q : Pr} (h : limP p = some q) : q = p ∧ p.1.carets ≤ 8 := by
  unfold limP at h
  split at h
  · next hc => injection h with h; exact ⟨h.symm, hc⟩
  · simp at h
theorem pwN_ok {b : Pr} (hb : okP b) : ∀ {k : Nat} {o : Pr}, pwN b k = some o → okP o ∧ o.1.carets ≤ 8 := by
  intro k
  induction k with
  | zero => intro o h; injection h with h; subst h; exact ⟨rfl, by decide⟩
  | succ k ih =>
    intro o h
    rw [pwN] at h
    cases h1 : pwN b k with
    | none => rw [h1] at h; simp at h
    | some q =>
      rw [h1] at h
      obtain ⟨e, hc⟩ := limP_some (show limP (mulP q b) = some o from h)
      rw [e]
      exact ⟨mulP_ok (ih h1).1 hb, hc⟩
theorem pwN_none {b : Pr} {k : Nat} (h : pwN b k = none) : ∀ j, k ≤ j → pwN b j = none := by
  intro j hj
  induction j with
  | zero => have : k = 0 := by omega
            subst this; exact h
  | succ j ih =>
    by_cases e : k = j + 1
    · rw [← e]; exact h
    · rw [pwN, ih (by omega)]; rfl

theorem prUnit_any (w : World) : Calls Try.prog 59 #[] w (Gives (.agg #[.string Tr.lf.str, .string Tr.lf.str]) w) := by
  go_enter Try.func59, Try.ntmps59
  go_wp2
  refine bodyPost_ret (v := .agg #[.string Tr.lf.str, .string Tr.lf.str]) (by simp [results, Try.results59, go_sem]; rfl) rfl ⟨rfl, ?_⟩
  exact nxAlloc (Below.refl _ _) _

theorem identity_any (w : World) : Calls Try.prog 54 #[] w (Gives (.agg #[.string Tr.lf.str, .string Tr.lf.str]) w) := by
  go_enter Try.func54, Try.ntmps54
  go_wp2
  refine bodyPost_ret (v := .agg #[.string Tr.lf.str, .string Tr.lf.str]) (by simp [results, Try.results54, go_sem]; rfl) rfl ⟨rfl, ?_⟩
  exact nxAlloc (Below.refl _ _) _
end Go.Proofs.Ytkpganpojdboeaa

/-! Inv -/
namespace Go.Proofs.Ytkpganpojdboeaa
open Go.RowKit

theorem prInverse_any (a b : ByteArray) (w : World) : Calls Try.prog 81 #[.agg #[.string a, .string b]] w (Gives (.agg #[.string b, .string a]) w) := by
  go_enter Try.func81, Try.ntmps81
  go_wp2
  refine bodyPost_ret (v := .agg #[.string b, .string a]) (by simp [results, Try.results81, go_sem]) rfl ⟨rfl, ?_⟩
  exact nxAlloc (nxAlloc (Below.refl _ _) _) _

theorem inverse_any (a b : ByteArray) (w : World) : Calls Try.prog 85 #[.agg #[.string a, .string b]] w (Gives (.agg #[.string b, .string a]) w) := by
  go_enter Try.func85, Try.ntmps85
  go_wp2
  refine bodyPost_ret (v := .agg #[.string b, .string a]) (by simp [results, Try.results85, go_sem]) rfl ⟨rfl, ?_⟩
  exact nxAlloc (nxAlloc (Below.refl _ _) _) _
end Go.Proofs.Ytkpganpojdboeaa

/-! ProdC -/
namespace Go.Proofs.Ytkpganpojdboeaa
open Go.RowKit

set_option maxRecDepth 100000 in
set_option maxHeartbeats 2000000 in
theorem implProductPair_any (a b c d : ByteArray) (w : World) (ha : a.size ≤ 9223372036854775806) (hb : b.size ≤ 9223372036854775806) (hc : c.size ≤ 9223372036854775806) (hd : d.size ≤ 9223372036854775806) :
    Calls Try.prog 104 #[.agg #[.string a, .string b], .agg #[.string c, .string d]] w (Gives (ansPr ((pairOf a b).bind fun p => (pairOf c d).bind fun q => limP (mulP p q))) w) := by
  have hg := fun w => isPair_any a b w ha hb
  have hk := fun w => isPair_any c d w hc hd
  cases h : pairOf a b with
  | none =>
    rw [h] at hg
    clear h hk
    go_enter Try.func104, Try.ntmps104
    go_wp2_with fail
    have hb0 : Below w.heap.size w (((w.alloc (.cells #[.string a, .string b] 25 (0, 0))).alloc (.cells #[.string c, .string d] 25 (0, 0))).alloc (.cells #[.string ⟨#[]⟩, .string ⟨#[]⟩] 25 (0, 0))) := nxAlloc (nxAlloc (nxAlloc (Below.refl _ _) _) _) _
    have hx0 := heap_keep (nxAlloc (Below.refl _ _) (.cells #[.string ⟨#[]⟩, .string ⟨#[]⟩] 25 (0, 0))) (heap_keep (nxAlloc (Below.refl _ _) (.cells #[.string c, .string d] 25 (0, 0))) (heap_alloc_at w (.cells #[.string a, .string b] 25 (0, 0))))
    have hx1 := heap_keep (nxAlloc (Below.refl _ _) (.cells #[.string ⟨#[]⟩, .string ⟨#[]⟩] 25 (0, 0))) (heap_alloc_at (w.alloc (.cells #[.string a, .string b] 25 (0, 0))) (.cells #[.string c, .string d] 25 (0, 0)))
    have hx2 := heap_alloc_at ((w.alloc (.cells #[.string a, .string b] 25 (0, 0))).alloc (.cells #[.string c, .string d] 25 (0, 0))) (.cells #[.string ⟨#[]⟩, .string ⟨#[]⟩] 25 (0, 0))
    generalize (((w.alloc (.cells #[.string a, .string b] 25 (0, 0))).alloc (.cells #[.string c, .string d] 25 (0, 0))).alloc (.cells #[.string ⟨#[]⟩, .string ⟨#[]⟩] 25 (0, 0))) = w0 at *
    have e1 : (w.alloc (.cells #[.string a, .string b] 25 (0, 0))).heap.size = w.heap.size + 1 := by simp
    rw [e1] at hx1
    clear e1
    have e2 : ((w.alloc (.cells #[.string a, .string b] 25 (0, 0))).alloc (.cells #[.string c, .string d] 25 (0, 0))).heap.size = w.heap.size + 1 + 1 := by simp
    rw [e2] at hx2
    clear e2
    obtain ⟨hx0a, hx0b, hx0c⟩ := two_facts hx0
    obtain ⟨hx0f, hx0g⟩ := two_frozen hx0
    obtain ⟨hx1a, hx1b, hx1c⟩ := two_facts hx1
    obtain ⟨hx1f, hx1g⟩ := two_frozen hx1
    obtain ⟨hx2a, hx2b, hx2c⟩ := two_facts hx2
    obtain ⟨hx2f, hx2g⟩ := two_frozen hx2
    refine (hg _).mono ?_; rintro e w1 ⟨rfl, hb1⟩
    have hbw1 := nx hb0 hb1
    replace hx0 := heap_keep hb1 hx0
    replace hx1 := heap_keep hb1 hx1
    replace hx2 := heap_keep hb1 hx2
    clear hx0a hx0b hx0c hx0f hx0g
    obtain ⟨hx0a, hx0b, hx0c⟩ := two_facts hx0
    obtain ⟨hx0f, hx0g⟩ := two_frozen hx0
    clear hx1a hx1b hx1c hx1f hx1g
    obtain ⟨hx1a, hx1b, hx1c⟩ := two_facts hx1
    obtain ⟨hx1f, hx1g⟩ := two_frozen hx1
    clear hx2a hx2b hx2c hx2f hx2g
    obtain ⟨hx2a, hx2b, hx2c⟩ := two_facts hx2
    obtain ⟨hx2f, hx2g⟩ := two_frozen hx2
    clear hb1 hb0
    go_wp2_with fail
    obtain ⟨q1, q2⟩ := two_cells (set_two (.string ⟨#[]⟩) (.string ⟨#[]⟩) hx2)
    refine bodyPost_ret (v := .tuple #[.agg #[.string ⟨#[]⟩, .string ⟨#[]⟩], .bool false]) (by simp [q1, q2, results, Try.results104, go_sem]) rfl ⟨rfl, ?_⟩
    exact (hbw1.setCell (by show w.heap.size ≤ w.heap.size + 1 + 1; omega) _).setCell (by show w.heap.size ≤ w.heap.size + 1 + 1; omega) _
  | some p =>
    rw [h] at hg
    obtain ⟨rfl, rfl, hok1, hp1, hp2⟩ := pairOf_some h
    clear h
    cases k : pairOf c d with
    | none =>
      rw [k] at hk
      clear k
      go_enter Try.func104, Try.ntmps104
      go_wp2_with fail
      have hb0 : Below w.heap.size w (((w.alloc (.cells #[.string p.1.str, .string p.2.str] 25 (0, 0))).alloc (.cells #[.string c, .string d] 25 (0, 0))).alloc (.cells #[.string ⟨#[]⟩, .string ⟨#[]⟩] 25 (0, 0))) := nxAlloc (nxAlloc (nxAlloc (Below.refl _ _) _) _) _
      have hx0 := heap_keep (nxAlloc (Below.refl _ _) (.cells #[.string ⟨#[]⟩, .string ⟨#[]⟩] 25 (0, 0))) (heap_keep (nxAlloc (Below.refl _ _) (.cells #[.string c, .string d] 25 (0, 0))) (heap_alloc_at w (.cells #[.string p.1.str, .string p.2.str] 25 (0, 0))))
      have hx1 := heap_keep (nxAlloc (Below.refl _ _) (.cells #[.string ⟨#[]⟩, .string ⟨#[]⟩] 25 (0, 0))) (heap_alloc_at (w.alloc (.cells #[.string p.1.str, .string p.2.str] 25 (0, 0))) (.cells #[.string c, .string d] 25 (0, 0)))
      have hx2 := heap_alloc_at ((w.alloc (.cells #[.string p.1.str, .string p.2.str] 25 (0, 0))).alloc (.cells #[.string c, .string d] 25 (0, 0))) (.cells #[.string ⟨#[]⟩, .string ⟨#[]⟩] 25 (0, 0))
      generalize (((w.alloc (.cells #[.string p.1.str, .string p.2.str] 25 (0, 0))).alloc (.cells #[.string c, .string d] 25 (0, 0))).alloc (.cells #[.string ⟨#[]⟩, .string ⟨#[]⟩] 25 (0, 0))) = w0 at *
      have e1 : (w.alloc (.cells #[.string p.1.str, .string p.2.str] 25 (0, 0))).heap.size = w.heap.size + 1 := by simp
      rw [e1] at hx1
      clear e1
      have e2 : ((w.alloc (.cells #[.string p.1.str, .string p.2.str] 25 (0, 0))).alloc (.cells #[.string c, .string d] 25 (0, 0))).heap.size = w.heap.size + 1 + 1 := by simp
      rw [e2] at hx2
      clear e2
      obtain ⟨hx0a, hx0b, hx0c⟩ := two_facts hx0
      obtain ⟨hx0f, hx0g⟩ := two_frozen hx0
      obtain ⟨hx1a, hx1b, hx1c⟩ := two_facts hx1
      obtain ⟨hx1f, hx1g⟩ := two_frozen hx1
      obtain ⟨hx2a, hx2b, hx2c⟩ := two_facts hx2
      obtain ⟨hx2f, hx2g⟩ := two_frozen hx2
      refine (hg _).mono ?_; rintro e w1 ⟨rfl, hb1⟩
      have hbw1 := nx hb0 hb1
      replace hx0 := heap_keep hb1 hx0
      replace hx1 := heap_keep hb1 hx1
      replace hx2 := heap_keep hb1 hx2
      clear hx0a hx0b hx0c hx0f hx0g
      obtain ⟨hx0a, hx0b, hx0c⟩ := two_facts hx0
      obtain ⟨hx0f, hx0g⟩ := two_frozen hx0
      clear hx1a hx1b hx1c hx1f hx1g
      obtain ⟨hx1a, hx1b, hx1c⟩ := two_facts hx1
      obtain ⟨hx1f, hx1g⟩ := two_frozen hx1
      clear hx2a hx2b hx2c hx2f hx2g
      obtain ⟨hx2a, hx2b, hx2c⟩ := two_facts hx2
      obtain ⟨hx2f, hx2g⟩ := two_frozen hx2
      clear hb1 hb0
      go_wp2_with fail
      refine (hk _).mono ?_; rintro e w2 ⟨rfl, hb2⟩
      have hbw2 := nx hbw1 hb2
      replace hx0 := heap_keep hb2 hx0
      replace hx1 := heap_keep hb2 hx1
      replace hx2 := heap_keep hb2 hx2
      clear hx0a hx0b hx0c hx0f hx0g
      obtain ⟨hx0a, hx0b, hx0c⟩ := two_facts hx0
      obtain ⟨hx0f, hx0g⟩ := two_frozen hx0
      clear hx1a hx1b hx1c hx1f hx1g
      obtain ⟨hx1a, hx1b, hx1c⟩ := two_facts hx1
      obtain ⟨hx1f, hx1g⟩ := two_frozen hx1
      clear hx2a hx2b hx2c hx2f hx2g
      obtain ⟨hx2a, hx2b, hx2c⟩ := two_facts hx2
      obtain ⟨hx2f, hx2g⟩ := two_frozen hx2
      clear hb2 hbw1
      go_wp2_with fail
      obtain ⟨q1, q2⟩ := two_cells (set_two (.string ⟨#[]⟩) (.string ⟨#[]⟩) hx2)
      refine bodyPost_ret (v := .tuple #[.agg #[.string ⟨#[]⟩, .string ⟨#[]⟩], .bool false]) (by simp [q1, q2, results, Try.results104, go_sem]) rfl ⟨rfl, ?_⟩
      exact (hbw2.setCell (by show w.heap.size ≤ w.heap.size + 1 + 1; omega) _).setCell (by show w.heap.size ≤ w.heap.size + 1 + 1; omega) _
    | some q =>
      rw [k] at hk
      obtain ⟨rfl, rfl, hok2, hq1, hq2⟩ := pairOf_some k
      clear k
      show Calls _ _ _ _ (Gives (ansPr (limP (mulP p q))) w)
      have hm := mulP_ok hok1 hok2
      have hmc := mulP_carets hok1 hok2
      have hL := fun w => pairLimit_any (mulP p q) w
      generalize limP (mulP p q) = o at *
      unfold ansPr at *
      generalize pS1 o = X at *
      generalize pS2 o = Y at *
      generalize o.isSome = ok at *
      go_enter Try.func104, Try.ntmps104
      go_wp2_with fail
      have hb0 : Below w.heap.size w (((w.alloc (.cells #[.string p.1.str, .string p.2.str] 25 (0, 0))).alloc (.cells #[.string q.1.str, .string q.2.str] 25 (0, 0))).alloc (.cells #[.string ⟨#[]⟩, .string ⟨#[]⟩] 25 (0, 0))) := nxAlloc (nxAlloc (nxAlloc (Below.refl _ _) _) _) _
      have hx0 := heap_keep (nxAlloc (Below.refl _ _) (.cells #[.string ⟨#[]⟩, .string ⟨#[]⟩] 25 (0, 0))) (heap_keep (nxAlloc (Below.refl _ _) (.cells #[.string q.1.str, .string q.2.str] 25 (0, 0))) (heap_alloc_at w (.cells #[.string p.1.str, .string p.2.str] 25 (0, 0))))
      have hx1 := heap_keep (nxAlloc (Below.refl _ _) (.cells #[.string ⟨#[]⟩, .string ⟨#[]⟩] 25 (0, 0))) (heap_alloc_at (w.alloc (.cells #[.string p.1.str, .string p.2.str] 25 (0, 0))) (.cells #[.string q.1.str, .string q.2.str] 25 (0, 0)))
      have hx2 := heap_alloc_at ((w.alloc (.cells #[.string p.1.str, .string p.2.str] 25 (0, 0))).alloc (.cells #[.string q.1.str, .string q.2.str] 25 (0, 0))) (.cells #[.string ⟨#[]⟩, .string ⟨#[]⟩] 25 (0, 0))
      generalize (((w.alloc (.cells #[.string p.1.str, .string p.2.str] 25 (0, 0))).alloc (.cells #[.string q.1.str, .string q.2.str] 25 (0, 0))).alloc (.cells #[.string ⟨#[]⟩, .string ⟨#[]⟩] 25 (0, 0))) = w0 at *
      have e1 : (w.alloc (.cells #[.string p.1.str, .string p.2.str] 25 (0, 0))).heap.size = w.heap.size + 1 := by simp
      rw [e1] at hx1
      clear e1
      have e2 : ((w.alloc (.cells #[.string p.1.str, .string p.2.str] 25 (0, 0))).alloc (.cells #[.string q.1.str, .string q.2.str] 25 (0, 0))).heap.size = w.heap.size + 1 + 1 := by simp
      rw [e2] at hx2
      clear e2
      obtain ⟨hx0a, hx0b, hx0c⟩ := two_facts hx0
      obtain ⟨hx0f, hx0g⟩ := two_frozen hx0
      obtain ⟨hx1a, hx1b, hx1c⟩ := two_facts hx1
      obtain ⟨hx1f, hx1g⟩ := two_frozen hx1
      obtain ⟨hx2a, hx2b, hx2c⟩ := two_facts hx2
      obtain ⟨hx2f, hx2g⟩ := two_frozen hx2
      refine (hg _).mono ?_; rintro e w1 ⟨rfl, hb1⟩
      have hbw1 := nx hb0 hb1
      replace hx0 := heap_keep hb1 hx0
      replace hx1 := heap_keep hb1 hx1
      replace hx2 := heap_keep hb1 hx2
      clear hx0a hx0b hx0c hx0f hx0g
      obtain ⟨hx0a, hx0b, hx0c⟩ := two_facts hx0
      obtain ⟨hx0f, hx0g⟩ := two_frozen hx0
      clear hx1a hx1b hx1c hx1f hx1g
      obtain ⟨hx1a, hx1b, hx1c⟩ := two_facts hx1
      obtain ⟨hx1f, hx1g⟩ := two_frozen hx1
      clear hx2a hx2b hx2c hx2f hx2g
      obtain ⟨hx2a, hx2b, hx2c⟩ := two_facts hx2
      obtain ⟨hx2f, hx2g⟩ := two_frozen hx2
      clear hb1 hb0
      go_wp2_with fail
      refine (hk _).mono ?_; rintro e w2 ⟨rfl, hb2⟩
      have hbw2 := nx hbw1 hb2
      replace hx0 := heap_keep hb2 hx0
      replace hx1 := heap_keep hb2 hx1
      replace hx2 := heap_keep hb2 hx2
      clear hx0a hx0b hx0c hx0f hx0g
      obtain ⟨hx0a, hx0b, hx0c⟩ := two_facts hx0
      obtain ⟨hx0f, hx0g⟩ := two_frozen hx0
      clear hx1a hx1b hx1c hx1f hx1g
      obtain ⟨hx1a, hx1b, hx1c⟩ := two_facts hx1
      obtain ⟨hx1f, hx1g⟩ := two_frozen hx1
      clear hx2a hx2b hx2c hx2f hx2g
      obtain ⟨hx2a, hx2b, hx2c⟩ := two_facts hx2
      obtain ⟨hx2f, hx2g⟩ := two_frozen hx2
      clear hb2 hbw1
      go_wp2_with fail
      refine (product_any p q _ hok1 hok2 (by omega) (by omega)).mono ?_; rintro e w3 ⟨rfl, hb3⟩
      have hbw3 := nx hbw2 hb3
      replace hx0 := heap_keep hb3 hx0
      replace hx1 := heap_keep hb3 hx1
      replace hx2 := heap_keep hb3 hx2
      clear hx0a hx0b hx0c hx0f hx0g
      obtain ⟨hx0a, hx0b, hx0c⟩ := two_facts hx0
      obtain ⟨hx0f, hx0g⟩ := two_frozen hx0
      clear hx1a hx1b hx1c hx1f hx1g
      obtain ⟨hx1a, hx1b, hx1c⟩ := two_facts hx1
      obtain ⟨hx1f, hx1g⟩ := two_frozen hx1
      clear hx2a hx2b hx2c hx2f hx2g
      obtain ⟨hx2a, hx2b, hx2c⟩ := two_facts hx2
      obtain ⟨hx2f, hx2g⟩ := two_frozen hx2
      clear hb3 hbw2
      go_wp2_with fail
      refine (hL _).mono ?_; rintro e w4 ⟨rfl, hb4⟩
      have hbw4 := nx hbw3 hb4
      replace hx0 := heap_keep hb4 hx0
      replace hx1 := heap_keep hb4 hx1
      replace hx2 := heap_keep hb4 hx2
      clear hx0a hx0b hx0c hx0f hx0g
      obtain ⟨hx0a, hx0b, hx0c⟩ := two_facts hx0
      obtain ⟨hx0f, hx0g⟩ := two_frozen hx0
      clear hx1a hx1b hx1c hx1f hx1g
      obtain ⟨hx1a, hx1b, hx1c⟩ := two_facts hx1
      obtain ⟨hx1f, hx1g⟩ := two_frozen hx1
      clear hx2a hx2b hx2c hx2f hx2g
      obtain ⟨hx2a, hx2b, hx2c⟩ := two_facts hx2
      obtain ⟨hx2f, hx2g⟩ := two_frozen hx2
      clear hb4 hbw3
      go_wp2_with fail
      obtain ⟨q1, q2⟩ := two_cells (set_two (.string X) (.string Y) hx2)
      refine bodyPost_ret (v := .tuple #[.agg #[.string X, .string Y], .bool ok]) (by simp [q1, q2, results, Try.results104, go_sem]) rfl ⟨rfl, ?_⟩
      exact (hbw4.setCell (by show w.heap.size ≤ w.heap.size + 1 + 1; omega) _).setCell (by show w.heap.size ≤ w.heap.size + 1 + 1; omega) _
end Go.Proofs.Ytkpganpojdboeaa

/-! WPowerPair -/
namespace Go.Proofs.Ytkpganpojdboeaa
open Go.RowKit

/-! Powers. -/

set_option maxRecDepth 100000 in
set_option maxHeartbeats 4000000 in
theorem implPowerPair_any (a b : ByteArray) (n : Int) (w : World) (ha : a.size ≤ 9223372036854775806) (hb : b.size ≤ 9223372036854775806) (lo : -9223372036854775808 ≤ n) (hi : n ≤ 9223372036854775807) :
    Calls Try.prog 73 #[.agg #[.string a, .string b], .int .i64 n] w (Gives (ansPr ((pairOf a b).bind fun p => powP p n)) w) := by
  have hg := fun w => isPair_any a b w ha hb
  cases h : pairOf a b with
  | none =>
    rw [h] at hg
    clear h
    go_enter Try.func73, Try.ntmps73
    go_wp2_with fail
    have hb0 : Below w.heap.size w ((w.alloc (.cells #[.string a, .string b] 25 (0, 0))).alloc (.cells #[.string ⟨#[]⟩, .string ⟨#[]⟩] 25 (0, 0))) := nxAlloc (nxAlloc (Below.refl _ _) _) _
    have hx0 := heap_keep (nxAlloc (Below.refl _ _) (.cells #[.string ⟨#[]⟩, .string ⟨#[]⟩] 25 (0, 0))) (heap_alloc_at w (.cells #[.string a, .string b] 25 (0, 0)))
    have hx1 := heap_alloc_at (w.alloc (.cells #[.string a, .string b] 25 (0, 0))) (.cells #[.string ⟨#[]⟩, .string ⟨#[]⟩] 25 (0, 0))
    generalize ((w.alloc (.cells #[.string a, .string b] 25 (0, 0))).alloc (.cells #[.string ⟨#[]⟩, .string ⟨#[]⟩] 25 (0, 0))) = w0 at *
    have e1 : (w.alloc (.cells #[.string a, .string b] 25 (0, 0))).heap.size = w.heap.size + 1 := by simp
    rw [e1] at hx1
    clear e1
    obtain ⟨hx0a, hx0b, hx0c⟩ := two_facts hx0
    obtain ⟨hx0f, hx0g⟩ := two_frozen hx0
    obtain ⟨hx1a, hx1b, hx1c⟩ := two_facts hx1
    obtain ⟨hx1f, hx1g⟩ := two_frozen hx1
    refine (hg _).mono ?_; rintro e w1 ⟨rfl, hb1⟩
    have hbw1 := nx hb0 hb1
    replace hx0 := heap_keep hb1 hx0
    replace hx1 := heap_keep hb1 hx1
    clear hx0a hx0b hx0c hx0f hx0g
    obtain ⟨hx0a, hx0b, hx0c⟩ := two_facts hx0
    obtain ⟨hx0f, hx0g⟩ := two_frozen hx0
    clear hx1a hx1b hx1c hx1f hx1g
    obtain ⟨hx1a, hx1b, hx1c⟩ := two_facts hx1
    obtain ⟨hx1f, hx1g⟩ := two_frozen hx1
    clear hb1 hb0
    go_wp2_with fail
    obtain ⟨q1, q2⟩ := two_cells (set_two (.string ⟨#[]⟩) (.string ⟨#[]⟩) hx1)
    refine bodyPost_ret (v := .tuple #[.agg #[.string ⟨#[]⟩, .string ⟨#[]⟩], .bool false]) (by simp [q1, q2, results, Try.results73, go_sem]) rfl ⟨rfl, ?_⟩
    exact (hbw1.setCell (by show w.heap.size ≤ w.heap.size + 1; omega) _).setCell (by show w.heap.size ≤ w.heap.size + 1; omega) _
  | some p =>
    rw [h] at hg
    obtain ⟨rfl, rfl, hok, hc1, hc2⟩ := pairOf_some h
    clear h
    show Calls _ _ _ _ (Gives (ansPr (powP p n)) w)
    unfold powP
    by_cases hn : -10 ≤ n ∧ n ≤ 10
    rotate_left
    · rw [if_neg hn]
      by_cases h1 : n < -10
      · clear hn
        go_enter Try.func73, Try.ntmps73
        go_wp2_with fail
        have hb0 : Below w.heap.size w ((w.alloc (.cells #[.string p.1.str, .string p.2.str] 25 (0, 0))).alloc (.cells #[.string ⟨#[]⟩, .string ⟨#[]⟩] 25 (0, 0))) := nxAlloc (nxAlloc (Below.refl _ _) _) _
        have hx0 := heap_keep (nxAlloc (Below.refl _ _) (.cells #[.string ⟨#[]⟩, .string ⟨#[]⟩] 25 (0, 0))) (heap_alloc_at w (.cells #[.string p.1.str, .string p.2.str] 25 (0, 0)))
        have hx1 := heap_alloc_at (w.alloc (.cells #[.string p.1.str, .string p.2.str] 25 (0, 0))) (.cells #[.string ⟨#[]⟩, .string ⟨#[]⟩] 25 (0, 0))
        generalize ((w.alloc (.cells #[.string p.1.str, .string p.2.str] 25 (0, 0))).alloc (.cells #[.string ⟨#[]⟩, .string ⟨#[]⟩] 25 (0, 0))) = w0 at *
        have e1 : (w.alloc (.cells #[.string p.1.str, .string p.2.str] 25 (0, 0))).heap.size = w.heap.size + 1 := by simp
        rw [e1] at hx1
        clear e1
        obtain ⟨hx0a, hx0b, hx0c⟩ := two_facts hx0
        obtain ⟨hx0f, hx0g⟩ := two_frozen hx0
        obtain ⟨hx1a, hx1b, hx1c⟩ := two_facts hx1
        obtain ⟨hx1f, hx1g⟩ := two_frozen hx1
        refine (hg _).mono ?_; rintro e w1 ⟨rfl, hb1⟩
        have hbw1 := nx hb0 hb1
        replace hx0 := heap_keep hb1 hx0
        replace hx1 := heap_keep hb1 hx1
        clear hx0a hx0b hx0c hx0f hx0g
        obtain ⟨hx0a, hx0b, hx0c⟩ := two_facts hx0
        obtain ⟨hx0f, hx0g⟩ := two_frozen hx0
        clear hx1a hx1b hx1c hx1f hx1g
        obtain ⟨hx1a, hx1b, hx1c⟩ := two_facts hx1
        obtain ⟨hx1f, hx1g⟩ := two_frozen hx1
        clear hb1 hb0
        go_wp2_with fail
        obtain ⟨q1, q2⟩ := two_cells (set_two (.string ⟨#[]⟩) (.string ⟨#[]⟩) hx1)
        refine bodyPost_ret (v := .tuple #[.agg #[.string ⟨#[]⟩, .string ⟨#[]⟩], .bool false]) (by simp [q1, q2, results, Try.results73, go_sem]) rfl ⟨rfl, ?_⟩
        exact (hbw1.setCell (by show w.heap.size ≤ w.heap.size + 1; omega) _).setCell (by show w.heap.size ≤ w.heap.size + 1; omega) _
      · have h2 : 10 < n := by omega
        clear hn
        go_enter Try.func73, Try.ntmps73
        go_wp2_with fail
        have hb0 : Below w.heap.size w ((w.alloc (.cells #[.string p.1.str, .string p.2.str] 25 (0, 0))).alloc (.cells #[.string ⟨#[]⟩, .string ⟨#[]⟩] 25 (0, 0))) := nxAlloc (nxAlloc (Below.refl _ _) _) _
        have hx0 := heap_keep (nxAlloc (Below.refl _ _) (.cells #[.string ⟨#[]⟩, .string ⟨#[]⟩] 25 (0, 0))) (heap_alloc_at w (.cells #[.string p.1.str, .string p.2.str] 25 (0, 0)))
        have hx1 := heap_alloc_at (w.alloc (.cells #[.string p.1.str, .string p.2.str] 25 (0, 0))) (.cells #[.string ⟨#[]⟩, .string ⟨#[]⟩] 25 (0, 0))
        generalize ((w.alloc (.cells #[.string p.1.str, .string p.2.str] 25 (0, 0))).alloc (.cells #[.string ⟨#[]⟩, .string ⟨#[]⟩] 25 (0, 0))) = w0 at *
        have e1 : (w.alloc (.cells #[.string p.1.str, .string p.2.str] 25 (0, 0))).heap.size = w.heap.size + 1 := by simp
        rw [e1] at hx1
        clear e1
        obtain ⟨hx0a, hx0b, hx0c⟩ := two_facts hx0
        obtain ⟨hx0f, hx0g⟩ := two_frozen hx0
        obtain ⟨hx1a, hx1b, hx1c⟩ := two_facts hx1
        obtain ⟨hx1f, hx1g⟩ := two_frozen hx1
        refine (hg _).mono ?_; rintro e w1 ⟨rfl, hb1⟩
        have hbw1 := nx hb0 hb1
        replace hx0 := heap_keep hb1 hx0
        replace hx1 := heap_keep hb1 hx1
        clear hx0a hx0b hx0c hx0f hx0g
        obtain ⟨hx0a, hx0b, hx0c⟩ := two_facts hx0
        obtain ⟨hx0f, hx0g⟩ := two_frozen hx0
        clear hx1a hx1b hx1c hx1f hx1g
        obtain ⟨hx1a, hx1b, hx1c⟩ := two_facts hx1
        obtain ⟨hx1f, hx1g⟩ := two_frozen hx1
        clear hb1 hb0
        go_wp2_with fail
        obtain ⟨q1, q2⟩ := two_cells (set_two (.string ⟨#[]⟩) (.string ⟨#[]⟩) hx1)
        refine bodyPost_ret (v := .tuple #[.agg #[.string ⟨#[]⟩, .string ⟨#[]⟩], .bool false]) (by simp [q1, q2, results, Try.results73, go_sem]) rfl ⟨rfl, ?_⟩
        exact (hbw1.setCell (by show w.heap.size ≤ w.heap.size + 1; omega) _).setCell (by show w.heap.size ≤ w.heap.size + 1; omega) _
    rw [if_pos hn]
    obtain ⟨hn1, hn2⟩ := hn
    have hok' : p.1.carets = p.2.carets := hok
    by_cases hneg : n < 0
    · rw [if_pos hneg]
      obtain ⟨K, rfl⟩ : ∃ K : Nat, n = -(K : Int) := ⟨(-n).toNat, by omega⟩
      have eK : (-(-(K : Int))).toNat = K := by omega
      rw [eK]
      have hbok : okP (invP p) := hok.symm
      have hbc : (invP p).1.carets ≤ 8 := hc2
      clear eK
      go_enter Try.func73, Try.ntmps73
      go_wp2_with fail
      have hb0 : Below w.heap.size w ((w.alloc (.cells #[.string p.1.str, .string p.2.str] 25 (0, 0))).alloc (.cells #[.string ⟨#[]⟩, .string ⟨#[]⟩] 25 (0, 0))) := nxAlloc (nxAlloc (Below.refl _ _) _) _
      have hx0 := heap_keep (nxAlloc (Below.refl _ _) (.cells #[.string ⟨#[]⟩, .string ⟨#[]⟩] 25 (0, 0))) (heap_alloc_at w (.cells #[.string p.1.str, .string p.2.str] 25 (0, 0)))
      have hx1 := heap_alloc_at (w.alloc (.cells #[.string p.1.str, .string p.2.str] 25 (0, 0))) (.cells #[.string ⟨#[]⟩, .string ⟨#[]⟩] 25 (0, 0))
      generalize ((w.alloc (.cells #[.string p.1.str, .string p.2.str] 25 (0, 0))).alloc (.cells #[.string ⟨#[]⟩, .string ⟨#[]⟩] 25 (0, 0))) = w0 at *
      have e1 : (w.alloc (.cells #[.string p.1.str, .string p.2.str] 25 (0, 0))).heap.size = w.heap.size + 1 := by simp
      rw [e1] at hx1
      clear e1
      obtain ⟨hx0a, hx0b, hx0c⟩ := two_facts hx0
      obtain ⟨hx0f, hx0g⟩ := two_frozen hx0
      obtain ⟨hx1a, hx1b, hx1c⟩ := two_facts hx1
      obtain ⟨hx1f, hx1g⟩ := two_frozen hx1
      refine (hg _).mono ?_; rintro e w1 ⟨rfl, hb1⟩
      have hbw1 := nx hb0 hb1
      replace hx0 := heap_keep hb1 hx0
      replace hx1 := heap_keep hb1 hx1
      clear hx0a hx0b hx0c hx0f hx0g
      obtain ⟨hx0a, hx0b, hx0c⟩ := two_facts hx0
      obtain ⟨hx0f, hx0g⟩ := two_frozen hx0
      clear hx1a hx1b hx1c hx1f hx1g
      obtain ⟨hx1a, hx1b, hx1c⟩ := two_facts hx1
      obtain ⟨hx1f, hx1g⟩ := two_frozen hx1
      clear hb1 hb0
      go_wp2_with fail
      refine (inverse_any _ _ _).mono ?_; rintro e w2 ⟨rfl, hb2⟩
      have hbw2 := nx hbw1 hb2
      replace hx0 := heap_keep hb2 hx0
      replace hx1 := heap_keep hb2 hx1
      clear hx0a hx0b hx0c hx0f hx0g
      obtain ⟨hx0a, hx0b, hx0c⟩ := two_facts hx0
      obtain ⟨hx0f, hx0g⟩ := two_frozen hx0
      clear hx1a hx1b hx1c hx1f hx1g
      obtain ⟨hx1a, hx1b, hx1c⟩ := two_facts hx1
      obtain ⟨hx1f, hx1g⟩ := two_frozen hx1
      clear hb2 hbw1
      go_wp2_with fail
      have hs0 := set_two (.string p.2.str) (.string p.1.str) hx0
      have hs1 := (Below.heap_setCell (w2.setCell ⟨w.heap.size, 0, none⟩ (.string p.2.str)) ⟨w.heap.size, 1, none⟩ (.string p.1.str) (w.heap.size + 1) (by show ¬ w.heap.size + 1 = w.heap.size; omega)).trans ((Below.heap_setCell w2 ⟨w.heap.size, 0, none⟩ (.string p.2.str) (w.heap.size + 1) (by show ¬ w.heap.size + 1 = w.heap.size; omega)).trans hx1)
      have hbs := (hbw2.setCell (p := ⟨w.heap.size, 0, none⟩) (Nat.le_refl _) (.string p.2.str)).setCell (p := ⟨w.heap.size, 1, none⟩) (Nat.le_refl _) (.string p.1.str)
      generalize (w2.setCell ⟨w.heap.size, 0, none⟩ (.string p.2.str)).setCell ⟨w.heap.size, 1, none⟩ (.string p.1.str) = ws at *
      clear hx0a hx0b hx0c hx0f hx0g hx1a hx1b hx1c hx1f hx1g hx0 hx1 hbw2
      have hx0 := hs0
      have hx1 := hs1
      clear hs0 hs1
      obtain ⟨hx0a, hx0b, hx0c⟩ := two_facts hx0
      obtain ⟨hx0f, hx0g⟩ := two_frozen hx0
      obtain ⟨hx1a, hx1b, hx1c⟩ := two_facts hx1
      obtain ⟨hx1f, hx1g⟩ := two_frozen hx1
      replace hx0 : ws.heap[w.heap.size]? = some (.cells #[.string (invP p).1.str, .string (invP p).2.str] 25 (0, 0)) := hx0
      generalize invP p = b at *
      refine (identity_any _).mono ?_; rintro e wu ⟨rfl, hbu⟩
      have hbwu := nx hbs hbu
      replace hx0 := heap_keep hbu hx0
      replace hx1 := heap_keep hbu hx1
      clear hx0a hx0b hx0c hx0f hx0g
      obtain ⟨hx0a, hx0b, hx0c⟩ := two_facts hx0
      obtain ⟨hx0f, hx0g⟩ := two_frozen hx0
      clear hx1a hx1b hx1c hx1f hx1g
      obtain ⟨hx1a, hx1b, hx1c⟩ := two_facts hx1
      obtain ⟨hx1f, hx1g⟩ := two_frozen hx1
      clear hbu hbs
      go_wp2_with fail
      have hlow : w.heap.size + 1 < wu.heap.size := hx1c
      have hbwv := nxAlloc hbwu (.cells #[.string Tr.lf.str, .string Tr.lf.str] 25 (0, 0))
      replace hx0 := heap_keep (nxAlloc (Below.refl _ _) (.cells #[.string Tr.lf.str, .string Tr.lf.str] 25 (0, 0))) hx0
      replace hx1 := heap_keep (nxAlloc (Below.refl _ _) (.cells #[.string Tr.lf.str, .string Tr.lf.str] 25 (0, 0))) hx1
      have hyv := heap_alloc_at wu (.cells #[.string Tr.lf.str, .string Tr.lf.str] 25 (0, 0))
      generalize wu.alloc (.cells #[.string Tr.lf.str, .string Tr.lf.str] 25 (0, 0)) = wv at *
      clear hbwu
      clear hx0a hx0b hx0c hx0f hx0g
      obtain ⟨hx0a, hx0b, hx0c⟩ := two_facts hx0
      obtain ⟨hx0f, hx0g⟩ := two_frozen hx0
      clear hx1a hx1b hx1c hx1f hx1g
      obtain ⟨hx1a, hx1b, hx1c⟩ := two_facts hx1
      obtain ⟨hx1f, hx1g⟩ := two_frozen hx1
      obtain ⟨hyva, hyvb, hyvc⟩ := two_facts hyv
      obtain ⟨hyvf, hyvg⟩ := two_frozen hyv
      generalize hG : wu.heap.size = G at *
      clear hG
      have hgO : w.heap.size + 1 < G := hlow
      go_loopw [29] (fun v wr => ∃ (o : Pr) (m : Nat), m ≤ K ∧ v = .int .i64 (m : Int) ∧ wr.heap[w.heap.size]? = some (.cells #[.string b.1.str, .string b.2.str] 25 (0, 0)) ∧ wr.heap[w.heap.size + 1]? = some (.cells #[.string ⟨#[]⟩, .string ⟨#[]⟩] 25 (0, 0)) ∧ wr.heap[G]? = some (.cells #[.string o.1.str, .string o.2.str] 25 (0, 0)) ∧ Below w.heap.size w wr ∧ G < wr.heap.size ∧ pwN b m = some o) (fun v _ => K - (intOf v).toNat)
      case atStart => exact ⟨unitP, 0, Nat.zero_le _, by simp, hx0, hx1, hyv, hbwv, hyvc, rfl⟩
      case round =>
        clear hx0a hx0b hx0c hx0f hx0g hx1a hx1b hx1c hx1f hx1g hyva hyvb hyvc hyvf hyvg hx0 hx1 hyv hbwv
        obtain ⟨o, m, hm, rfl, hx0, hx1, hx2, hbw, hgl, hpo⟩ := hrel
        obtain ⟨hoo, hoc⟩ := pwN_ok hbok hpo
        obtain ⟨hx0a, hx0b, hx0c⟩ := two_facts hx0
        obtain ⟨hx0f, hx0g⟩ := two_frozen hx0
        obtain ⟨hx1a, hx1b, hx1c⟩ := two_facts hx1
        obtain ⟨hx1f, hx1g⟩ := two_frozen hx1
        obtain ⟨hx2a, hx2b, hx2c⟩ := two_facts hx2
        obtain ⟨hx2f, hx2g⟩ := two_frozen hx2
        by_cases hlt : m < K
        · have hbc2 := hbc
          have hmo := mulP_ok hoo hbok
          have hlt' : (m : Int) < (K : Int) := by omega
          have hpn : pwN b (m + 1) = limP (mulP o b) := by rw [pwN, hpo]; rfl
          have s1 := o.1.str_size
          have s2 := o.2.str_size
          have s3 := b.1.str_size
          have s4 := b.2.str_size
          have T := fun w => implProductPair_any o.1.str o.2.str b.1.str b.2.str w (by unfold okP at *; omega) (by unfold okP at *; omega) (by unfold okP at *; omega) (by unfold okP at *; omega)
          rw [pairOf_str hoo hoc, pairOf_str hbok hbc] at T
          have HPO := Lib.hid hpo
          clear hpo s1 s2 s3 s4
          by_cases h8 : (mulP o b).1.carets ≤ 8
          · have hpm : pwN b (m + 1) = some (mulP o b) := by rw [hpn]; unfold limP; rw [if_pos h8]
            have T' : ∀ w, Calls Try.prog 104 #[.agg #[.string o.1.str, .string o.2.str], .agg #[.string b.1.str, .string b.2.str]] w (Gives (.tuple #[.agg #[.string (mulP o b).1.str, .string (mulP o b).2.str], .bool true]) w) := by
              intro w; have := T w; simp only [Option.bind_some, limP, if_pos h8] at this; exact this
            have HPM := Lib.hid hpm
            clear hpm hpn T h8
            generalize mulP o b = M at *
            go_wp2_with fail
            refine (T' _).mono ?_; rintro e w101 ⟨rfl, hb101⟩
            have hbw101 := nx hbw hb101
            replace hx0 := heap_keep hb101 hx0
            replace hx1 := heap_keep hb101 hx1
            replace hx2 := heap_keep hb101 hx2
            clear hx0a hx0b hx0c hx0f hx0g
            obtain ⟨hx0a, hx0b, hx0c⟩ := two_facts hx0
            obtain ⟨hx0f, hx0g⟩ := two_frozen hx0
            clear hx1a hx1b hx1c hx1f hx1g
            obtain ⟨hx1a, hx1b, hx1c⟩ := two_facts hx1
            obtain ⟨hx1f, hx1g⟩ := two_frozen hx1
            clear hx2a hx2b hx2c hx2f hx2g
            obtain ⟨hx2a, hx2b, hx2c⟩ := two_facts hx2
            obtain ⟨hx2f, hx2g⟩ := two_frozen hx2
            clear hb101 hbw
            go_wp2_with fail
            have hs2 := set_two (.string M.1.str) (.string M.2.str) hx2
            have hs0 := (Below.heap_setCell (w101.setCell ⟨G, 0, none⟩ (.string M.1.str)) ⟨G, 1, none⟩ (.string M.2.str) w.heap.size (by show ¬ w.heap.size = G; omega)).trans ((Below.heap_setCell w101 ⟨G, 0, none⟩ (.string M.1.str) w.heap.size (by show ¬ w.heap.size = G; omega)).trans hx0)
            have hs1 := (Below.heap_setCell (w101.setCell ⟨G, 0, none⟩ (.string M.1.str)) ⟨G, 1, none⟩ (.string M.2.str) (w.heap.size + 1) (by show ¬ w.heap.size + 1 = G; omega)).trans ((Below.heap_setCell w101 ⟨G, 0, none⟩ (.string M.1.str) (w.heap.size + 1) (by show ¬ w.heap.size + 1 = G; omega)).trans hx1)
            have hbs := (hbw101.setCell (p := ⟨G, 0, none⟩) (by show w.heap.size ≤ G; omega) (.string M.1.str)).setCell (p := ⟨G, 1, none⟩) (by show w.heap.size ≤ G; omega) (.string M.2.str)
            replace hs0 := heap_keep (nxAlloc (Below.refl _ _) (.cells #[.string M.1.str, .string M.2.str] 25 (0, 0))) hs0
            replace hs1 := heap_keep (nxAlloc (Below.refl _ _) (.cells #[.string M.1.str, .string M.2.str] 25 (0, 0))) hs1
            replace hs2 := heap_keep (nxAlloc (Below.refl _ _) (.cells #[.string M.1.str, .string M.2.str] 25 (0, 0))) hs2
            replace hbs := nxAlloc hbs (.cells #[.string M.1.str, .string M.2.str] 25 (0, 0))
            go_roundw
            case rel => exact ⟨M, m + 1, by omega, by go_num, hs0, hs1, hs2, hbs, lt_of_block hs2, HPM.out⟩
            case measure => simp [intOf]; omega
          · have hpm : pwN b (m + 1) = none := by rw [hpn]; unfold limP; rw [if_neg h8]
            have T' : ∀ w, Calls Try.prog 104 #[.agg #[.string o.1.str, .string o.2.str], .agg #[.string b.1.str, .string b.2.str]] w (Gives (.tuple #[.agg #[.string ⟨#[]⟩, .string ⟨#[]⟩], .bool false]) w) := by
              intro w; have := T w; simp only [Option.bind_some, limP, if_neg h8] at this; exact this
            have hN := pwN_none hpm K (by omega)
            have HN := Lib.hid hN
            clear hpm hpn T h8 hN
            go_wp2_with fail
            refine (T' _).mono ?_; rintro e w101 ⟨rfl, hb101⟩
            have hbw101 := nx hbw hb101
            replace hx0 := heap_keep hb101 hx0
            replace hx1 := heap_keep hb101 hx1
            replace hx2 := heap_keep hb101 hx2
            clear hx0a hx0b hx0c hx0f hx0g
            obtain ⟨hx0a, hx0b, hx0c⟩ := two_facts hx0
            obtain ⟨hx0f, hx0g⟩ := two_frozen hx0
            clear hx1a hx1b hx1c hx1f hx1g
            obtain ⟨hx1a, hx1b, hx1c⟩ := two_facts hx1
            obtain ⟨hx1f, hx1g⟩ := two_frozen hx1
            clear hx2a hx2b hx2c hx2f hx2g
            obtain ⟨hx2a, hx2b, hx2c⟩ := two_facts hx2
            obtain ⟨hx2f, hx2g⟩ := two_frozen hx2
            clear hb101 hbw
            go_wp2_with fail
            obtain ⟨q1, q2⟩ := two_cells (heap_keep (nxAlloc (Below.refl _ _) (.cells #[.string ⟨#[]⟩, .string ⟨#[]⟩] 25 (0, 0))) (set_two (.string ⟨#[]⟩) (.string ⟨#[]⟩) hx1))
            refine bodyPost_ret (v := .tuple #[.agg #[.string ⟨#[]⟩, .string ⟨#[]⟩], .bool false]) (by simp [q1, q2, results, Try.results73, go_sem]) rfl ⟨by rw [HN.out]; rfl, ?_⟩
            exact nxAlloc ((hbw101.setCell (by show w.heap.size ≤ w.heap.size + 1; omega) _).setCell (by show w.heap.size ≤ w.heap.size + 1; omega) _) _
        · obtain rfl : m = K := by omega
          have hlt' : ¬ (m : Int) < (m : Int) := by omega
          have HPO := Lib.hid hpo
          clear hpo hlt
          go_wp2_with fail
          obtain ⟨q1, q2⟩ := two_cells (set_two (.string o.1.str) (.string o.2.str) hx1)
          refine bodyPost_ret (v := .tuple #[.agg #[.string o.1.str, .string o.2.str], .bool true]) (by simp [q1, q2, results, Try.results73, go_sem]) rfl ⟨by rw [HPO.out]; rfl, ?_⟩
          exact (hbw.setCell (by show w.heap.size ≤ w.heap.size + 1; omega) _).setCell (by show w.heap.size ≤ w.heap.size + 1; omega) _
    · rw [if_neg hneg]
      obtain ⟨K, rfl⟩ : ∃ K : Nat, n = (K : Int) := ⟨n.toNat, by omega⟩
      have eK : ((K : Int)).toNat = K := by omega
      rw [eK]
      have hbok : okP p := hok
      have hbc : p.1.carets ≤ 8 := hc1
      clear eK
      go_enter Try.func73, Try.ntmps73
      go_wp2_with fail
      have hb0 : Below w.heap.size w ((w.alloc (.cells #[.string p.1.str, .string p.2.str] 25 (0, 0))).alloc (.cells #[.string ⟨#[]⟩, .string ⟨#[]⟩] 25 (0, 0))) := nxAlloc (nxAlloc (Below.refl _ _) _) _
      have hx0 := heap_keep (nxAlloc (Below.refl _ _) (.cells #[.string ⟨#[]⟩, .string ⟨#[]⟩] 25 (0, 0))) (heap_alloc_at w (.cells #[.string p.1.str, .string p.2.str] 25 (0, 0)))
      have hx1 := heap_alloc_at (w.alloc (.cells #[.string p.1.str, .string p.2.str] 25 (0, 0))) (.cells #[.string ⟨#[]⟩, .string ⟨#[]⟩] 25 (0, 0))
      generalize ((w.alloc (.cells #[.string p.1.str, .string p.2.str] 25 (0, 0))).alloc (.cells #[.string ⟨#[]⟩, .string ⟨#[]⟩] 25 (0, 0))) = w0 at *
      have e1 : (w.alloc (.cells #[.string p.1.str, .string p.2.str] 25 (0, 0))).heap.size = w.heap.size + 1 := by simp
      rw [e1] at hx1
      clear e1
      obtain ⟨hx0a, hx0b, hx0c⟩ := two_facts hx0
      obtain ⟨hx0f, hx0g⟩ := two_frozen hx0
      obtain ⟨hx1a, hx1b, hx1c⟩ := two_facts hx1
      obtain ⟨hx1f, hx1g⟩ := two_frozen hx1
      refine (hg _).mono ?_; rintro e w1 ⟨rfl, hb1⟩
      have hbw1 := nx hb0 hb1
      replace hx0 := heap_keep hb1 hx0
      replace hx1 := heap_keep hb1 hx1
      clear hx0a hx0b hx0c hx0f hx0g
      obtain ⟨hx0a, hx0b, hx0c⟩ := two_facts hx0
      obtain ⟨hx0f, hx0g⟩ := two_frozen hx0
      clear hx1a hx1b hx1c hx1f hx1g
      obtain ⟨hx1a, hx1b, hx1c⟩ := two_facts hx1
      obtain ⟨hx1f, hx1g⟩ := two_frozen hx1
      clear hb1 hb0
      go_wp2_with fail
      generalize p = b at *
      refine (identity_any _).mono ?_; rintro e wu ⟨rfl, hbu⟩
      have hbwu := nx hbw1 hbu
      replace hx0 := heap_keep hbu hx0
      replace hx1 := heap_keep hbu hx1
      clear hx0a hx0b hx0c hx0f hx0g
      obtain ⟨hx0a, hx0b, hx0c⟩ := two_facts hx0
      obtain ⟨hx0f, hx0g⟩ := two_frozen hx0
      clear hx1a hx1b hx1c hx1f hx1g
      obtain ⟨hx1a, hx1b, hx1c⟩ := two_facts hx1
      obtain ⟨hx1f, hx1g⟩ := two_frozen hx1
      clear hbu hbw1
      go_wp2_with fail
      have hlow : w.heap.size + 1 < wu.heap.size := hx1c
      have hbwv := nxAlloc hbwu (.cells #[.string Tr.lf.str, .string Tr.lf.str] 25 (0, 0))
      replace hx0 := heap_keep (nxAlloc (Below.refl _ _) (.cells #[.string Tr.lf.str, .string Tr.lf.str] 25 (0, 0))) hx0
      replace hx1 := heap_keep (nxAlloc (Below.refl _ _) (.cells #[.string Tr.lf.str, .string Tr.lf.str] 25 (0, 0))) hx1
      have hyv := heap_alloc_at wu (.cells #[.string Tr.lf.str, .string Tr.lf.str] 25 (0, 0))
      generalize wu.alloc (.cells #[.string Tr.lf.str, .string Tr.lf.str] 25 (0, 0)) = wv at *
      clear hbwu
      clear hx0a hx0b hx0c hx0f hx0g
      obtain ⟨hx0a, hx0b, hx0c⟩ := two_facts hx0
      obtain ⟨hx0f, hx0g⟩ := two_frozen hx0
      clear hx1a hx1b hx1c hx1f hx1g
      obtain ⟨hx1a, hx1b, hx1c⟩ := two_facts hx1
      obtain ⟨hx1f, hx1g⟩ := two_frozen hx1
      obtain ⟨hyva, hyvb, hyvc⟩ := two_facts hyv
      obtain ⟨hyvf, hyvg⟩ := two_frozen hyv
      generalize hG : wu.heap.size = G at *
      clear hG
      have hgO : w.heap.size + 1 < G := hlow
      go_loopw [29] (fun v wr => ∃ (o : Pr) (m : Nat), m ≤ K ∧ v = .int .i64 (m : Int) ∧ wr.heap[w.heap.size]? = some (.cells #[.string b.1.str, .string b.2.str] 25 (0, 0)) ∧ wr.heap[w.heap.size + 1]? = some (.cells #[.string ⟨#[]⟩, .string ⟨#[]⟩] 25 (0, 0)) ∧ wr.heap[G]? = some (.cells #[.string o.1.str, .string o.2.str] 25 (0, 0)) ∧ Below w.heap.size w wr ∧ G < wr.heap.size ∧ pwN b m = some o) (fun v _ => K - (intOf v).toNat)
      case atStart => exact ⟨unitP, 0, Nat.zero_le _, by simp, hx0, hx1, hyv, hbwv, hyvc, rfl⟩
      case round =>
        clear hx0a hx0b hx0c hx0f hx0g hx1a hx1b hx1c hx1f hx1g hyva hyvb hyvc hyvf hyvg hx0 hx1 hyv hbwv
        obtain ⟨o, m, hm, rfl, hx0, hx1, hx2, hbw, hgl, hpo⟩ := hrel
        obtain ⟨hoo, hoc⟩ := pwN_ok hbok hpo
        obtain ⟨hx0a, hx0b, hx0c⟩ := two_facts hx0
        obtain ⟨hx0f, hx0g⟩ := two_frozen hx0
        obtain ⟨hx1a, hx1b, hx1c⟩ := two_facts hx1
        obtain ⟨hx1f, hx1g⟩ := two_frozen hx1
        obtain ⟨hx2a, hx2b, hx2c⟩ := two_facts hx2
        obtain ⟨hx2f, hx2g⟩ := two_frozen hx2
        by_cases hlt : m < K
        · have hbc2 := hbc
          have hmo := mulP_ok hoo hbok
          have hlt' : (m : Int) < (K : Int) := by omega
          have hpn : pwN b (m + 1) = limP (mulP o b) := by rw [pwN, hpo]; rfl
          have s1 := o.1.str_size
          have s2 := o.2.str_size
          have s3 := b.1.str_size
          have s4 := b.2.str_size
          have T := fun w => implProductPair_any o.1.str o.2.str b.1.str b.2.str w (by unfold okP at *; omega) (by unfold okP at *; omega) (by unfold okP at *; omega) (by unfold okP at *; omega)
          rw [pairOf_str hoo hoc, pairOf_str hbok hbc] at T
          have HPO := Lib.hid hpo
          clear hpo s1 s2 s3 s4
          by_cases h8 : (mulP o b).1.carets ≤ 8
          · have hpm : pwN b (m + 1) = some (mulP o b) := by rw [hpn]; unfold limP; rw [if_pos h8]
            have T' : ∀ w, Calls Try.prog 104 #[.agg #[.string o.1.str, .string o.2.str], .agg #[.string b.1.str, .string b.2.str]] w (Gives (.tuple #[.agg #[.string (mulP o b).1.str, .string (mulP o b).2.str], .bool true]) w) := by
              intro w; have := T w; simp only [Option.bind_some, limP, if_pos h8] at this; exact this
            have HPM := Lib.hid hpm
            clear hpm hpn T h8
            generalize mulP o b = M at *
            go_wp2_with fail
            refine (T' _).mono ?_; rintro e w101 ⟨rfl, hb101⟩
            have hbw101 := nx hbw hb101
            replace hx0 := heap_keep hb101 hx0
            replace hx1 := heap_keep hb101 hx1
            replace hx2 := heap_keep hb101 hx2
            clear hx0a hx0b hx0c hx0f hx0g
            obtain ⟨hx0a, hx0b, hx0c⟩ := two_facts hx0
            obtain ⟨hx0f, hx0g⟩ := two_frozen hx0
            clear hx1a hx1b hx1c hx1f hx1g
            obtain ⟨hx1a, hx1b, hx1c⟩ := two_facts hx1
            obtain ⟨hx1f, hx1g⟩ := two_frozen hx1
            clear hx2a hx2b hx2c hx2f hx2g
            obtain ⟨hx2a, hx2b, hx2c⟩ := two_facts hx2
            obtain ⟨hx2f, hx2g⟩ := two_frozen hx2
            clear hb101 hbw
            go_wp2_with fail
            have hs2 := set_two (.string M.1.str) (.string M.2.str) hx2
            have hs0 := (Below.heap_setCell (w101.setCell ⟨G, 0, none⟩ (.string M.1.str)) ⟨G, 1, none⟩ (.string M.2.str) w.heap.size (by show ¬ w.heap.size = G; omega)).trans ((Below.heap_setCell w101 ⟨G, 0, none⟩ (.string M.1.str) w.heap.size (by show ¬ w.heap.size = G; omega)).trans hx0)
            have hs1 := (Below.heap_setCell (w101.setCell ⟨G, 0, none⟩ (.string M.1.str)) ⟨G, 1, none⟩ (.string M.2.str) (w.heap.size + 1) (by show ¬ w.heap.size + 1 = G; omega)).trans ((Below.heap_setCell w101 ⟨G, 0, none⟩ (.string M.1.str) (w.heap.size + 1) (by show ¬ w.heap.size + 1 = G; omega)).trans hx1)
            have hbs := (hbw101.setCell (p := ⟨G, 0, none⟩) (by show w.heap.size ≤ G; omega) (.string M.1.str)).setCell (p := ⟨G, 1, none⟩) (by show w.heap.size ≤ G; omega) (.string M.2.str)
            replace hs0 := heap_keep (nxAlloc (Below.refl _ _) (.cells #[.string M.1.str, .string M.2.str] 25 (0, 0))) hs0
            replace hs1 := heap_keep (nxAlloc (Below.refl _ _) (.cells #[.string M.1.str, .string M.2.str] 25 (0, 0))) hs1
            replace hs2 := heap_keep (nxAlloc (Below.refl _ _) (.cells #[.string M.1.str, .string M.2.str] 25 (0, 0))) hs2
            replace hbs := nxAlloc hbs (.cells #[.string M.1.str, .string M.2.str] 25 (0, 0))
            go_roundw
            case rel => exact ⟨M, m + 1, by omega, by go_num, hs0, hs1, hs2, hbs, lt_of_block hs2, HPM.out⟩
            case measure => simp [intOf]; omega
          · have hpm : pwN b (m + 1) = none := by rw [hpn]; unfold limP; rw [if_neg h8]
            have T' : ∀ w, Calls Try.prog 104 #[.agg #[.string o.1.str, .string o.2.str], .agg #[.string b.1.str, .string b.2.str]] w (Gives (.tuple #[.agg #[.string ⟨#[]⟩, .string ⟨#[]⟩], .bool false]) w) := by
              intro w; have := T w; simp only [Option.bind_some, limP, if_neg h8] at this; exact this
            have hN := pwN_none hpm K (by omega)
            have HN := Lib.hid hN
            clear hpm hpn T h8 hN
            go_wp2_with fail
            refine (T' _).mono ?_; rintro e w101 ⟨rfl, hb101⟩
            have hbw101 := nx hbw hb101
            replace hx0 := heap_keep hb101 hx0
            replace hx1 := heap_keep hb101 hx1
            replace hx2 := heap_keep hb101 hx2
            clear hx0a hx0b hx0c hx0f hx0g
            obtain ⟨hx0a, hx0b, hx0c⟩ := two_facts hx0
            obtain ⟨hx0f, hx0g⟩ := two_frozen hx0
            clear hx1a hx1b hx1c hx1f hx1g
            obtain ⟨hx1a, hx1b, hx1c⟩ := two_facts hx1
            obtain ⟨hx1f, hx1g⟩ := two_frozen hx1
            clear hx2a hx2b hx2c hx2f hx2g
            obtain ⟨hx2a, hx2b, hx2c⟩ := two_facts hx2
            obtain ⟨hx2f, hx2g⟩ := two_frozen hx2
            clear hb101 hbw
            go_wp2_with fail
            obtain ⟨q1, q2⟩ := two_cells (heap_keep (nxAlloc (Below.refl _ _) (.cells #[.string ⟨#[]⟩, .string ⟨#[]⟩] 25 (0, 0))) (set_two (.string ⟨#[]⟩) (.string ⟨#[]⟩) hx1))
            refine bodyPost_ret (v := .tuple #[.agg #[.string ⟨#[]⟩, .string ⟨#[]⟩], .bool false]) (by simp [q1, q2, results, Try.results73, go_sem]) rfl ⟨by rw [HN.out]; rfl, ?_⟩
            exact nxAlloc ((hbw101.setCell (by show w.heap.size ≤ w.heap.size + 1; omega) _).setCell (by show w.heap.size ≤ w.heap.size + 1; omega) _) _
        · obtain rfl : m = K := by omega
          have hlt' : ¬ (m : Int) < (m : Int) := by omega
          have HPO := Lib.hid hpo
          clear hpo hlt
          go_wp2_with fail
          obtain ⟨q1, q2⟩ := two_cells (set_two (.string o.1.str) (.string o.2.str) hx1)
          refine bodyPost_ret (v := .tuple #[.agg #[.string o.1.str, .string o.2.str], .bool true]) (by simp [q1, q2, results, Try.results73, go_sem]) rfl ⟨by rw [HPO.out]; rfl, ?_⟩
          exact (hbw.setCell (by show w.heap.size ≤ w.heap.size + 1; omega) _).setCell (by show w.heap.size ≤ w.heap.size + 1; omega) _

end Go.Proofs.Ytkpganpojdboeaa

/-! Sm8 -/
namespace Go.Proofs.Ytkpganpojdboeaa
open Go.RowKit

theorem pwN_small {q : Pr} (h : q ∈ smallN 4) {k : Nat} (hk : k ≤ 4) : pwN q k = if (pwU q k).1.carets ≤ 8 then some (pwU q k) else none := by
  have hq := mem_smallN.1 h
  have c := fun k => pwU_carets hq.2.1 k
  have c1 := c 1
  have c2 := c 2
  have c0 := c 0
  have hs := chk_small h
  have e0 : pwN q 0 = some (pwU q 0) := rfl
  have st : ∀ j, pwN q j = some (pwU q j) → pwN q (j + 1) = if (pwU q (j + 1)).1.carets ≤ 8 then some (pwU q (j + 1)) else none := fun j hj => by
    rw [pwN, hj]; rfl
  have e1 : pwN q 1 = some (pwU q 1) := by rw [st 0 e0, if_pos (show (pwU q 1).1.carets ≤ 8 by omega)]
  have e2 : pwN q 2 = some (pwU q 2) := by rw [st 1 e1, if_pos (show (pwU q 2).1.carets ≤ 8 by omega)]
  match k, hk with
  | 0, _ => rw [e0, if_pos (by omega)]
  | 1, _ => rw [e1, if_pos (by omega)]
  | 2, _ => rw [e2, if_pos (by omega)]
  | 3, _ => exact st 2 e2
  | 4, _ =>
    by_cases h3 : (pwU q 3).1.carets ≤ 8
    · exact st 3 (by rw [st 2 e2, if_pos h3])
    · have h4 : ¬ (pwU q 4).1.carets ≤ 8 := by omega
      rw [if_neg h4, pwN, st 2 e2, if_neg h3]
      rfl
theorem eqPr_no {r s : Pr} (h : ¬ r = s) : eqPr r s = false := by unfold eqPr; simp [h]
theorem one_cell {w : World} {b : Nat} {v : Value} {t : TypeId} (h : w.heap[b]? = some (.cells #[v] t (0, 0))) : w.cell? ⟨b, 0, none⟩ = some v := by simp [World.cell?, h]

set_option maxRecDepth 100000 in
set_option maxHeartbeats 2000000 in
theorem roots_any (P q : Pr) (k bk bp : Nat) (w : World) (hk : k ≤ 4) (hq : q ∈ smallN 4) (hP : P.1.carets ≤ 8)
    (hxk : w.heap[bk]? = some (.cells #[.int .i64 (k : Int)] 3 (0, 0))) (hxp : w.heap[bp]? = some (.cells #[.string P.1.str, .string P.2.str] 25 (0, 0))) :
    Calls Try.prog 72 #[.agg #[.string q.1.str, .string q.2.str], .pointer (some ⟨bk, 0, none⟩), .pointer (some ⟨bp, 0, none⟩)] w (Gives (.bool (eqPr (pwU q k) P)) w) := by
  have hqq := mem_smallN.1 hq
  have z1 := q.1.str_size
  have z2 := q.2.str_size
  have ho : q.1.carets = q.2.carets := hqq.2.1
  have PX := fun w => implPowerPair_any q.1.str q.2.str (k : Int) w (by omega) (by omega) (by omega) (by omega)
  have hpp : ((pairOf q.1.str q.2.str).bind fun p => powP p (k : Int)) = pwN q k := by
    rw [pairOf_str hqq.2.1 (by omega)]
    show powP q (k : Int) = _
    unfold powP
    rw [if_pos (by omega), if_neg (by omega), Int.toNat_natCast]
  rw [hpp, pwN_small hq hk] at PX
  clear hpp z1 z2 ho hqq
  by_cases h8 : (pwU q k).1.carets ≤ 8
  · rw [if_pos h8] at PX
    have PX' : ∀ w, Calls Try.prog 73 #[.agg #[.string q.1.str, .string q.2.str], .int .i64 (k : Int)] w (Gives (.tuple #[.agg #[.string (pwU q k).1.str, .string (pwU q k).2.str], .bool true]) w) := PX
    clear PX h8
    generalize pwU q k = R at *
    rcases eq_cases R P with ⟨e1, e3⟩ | ⟨e1, e2, e3⟩ | ⟨e1, e3⟩
    · subst e1
      rw [e3]
      clear e3
      go_enter Try.func72, Try.ntmps72
      have hb0 := nxAlloc (Below.refl w.heap.size w) (.cells #[.string q.1.str, .string q.2.str] 25 (0, 0))
      have hy := heap_alloc_at w (.cells #[.string q.1.str, .string q.2.str] 25 (0, 0))
      have hx0 := heap_keep (nxAlloc (Below.refl w.heap.size w) (.cells #[.string q.1.str, .string q.2.str] 25 (0, 0))) hxp
      have hk0 := heap_keep (nxAlloc (Below.refl w.heap.size w) (.cells #[.string q.1.str, .string q.2.str] 25 (0, 0))) hxk
      obtain ⟨ya, yb, yc⟩ := two_facts hy
      have kc := one_cell hk0
      go_wp2_with fail
      generalize w.alloc (.cells #[.string q.1.str, .string q.2.str] 25 (0, 0)) = w0 at *
      refine (PX' _).mono ?_; rintro e w1 ⟨rfl, hb1⟩
      have hbw1 := nxAlloc (nx hb0 hb1) (.cells #[.string R.1.str, .string R.2.str] 25 (0, 0))
      have hx1 := heap_keep (nxAlloc (Below.refl w1.heap.size w1) (.cells #[.string R.1.str, .string R.2.str] 25 (0, 0))) (heap_keep hb1 hx0)
      have hz := heap_alloc_at w1 (.cells #[.string R.1.str, .string R.2.str] 25 (0, 0))
      obtain ⟨xa, xb, xc⟩ := two_facts hx1
      obtain ⟨za, zb, zc⟩ := two_facts hz
      clear hb0 hb1 ya yb yc kc hx0 hk0 hy
      go_wp2_with fail
      go_ret
      exact ⟨rfl, hbw1⟩
    · rw [e3]
      rw [e1] at PX'
      have e4 : ¬ P.2.str.toList = R.2.str.toList := fun e => e2 e.symm
      clear e3 e1
      go_enter Try.func72, Try.ntmps72
      have hb0 := nxAlloc (Below.refl w.heap.size w) (.cells #[.string q.1.str, .string q.2.str] 25 (0, 0))
      have hy := heap_alloc_at w (.cells #[.string q.1.str, .string q.2.str] 25 (0, 0))
      have hx0 := heap_keep (nxAlloc (Below.refl w.heap.size w) (.cells #[.string q.1.str, .string q.2.str] 25 (0, 0))) hxp
      have hk0 := heap_keep (nxAlloc (Below.refl w.heap.size w) (.cells #[.string q.1.str, .string q.2.str] 25 (0, 0))) hxk
      obtain ⟨ya, yb, yc⟩ := two_facts hy
      have kc := one_cell hk0
      go_wp2_with fail
      generalize w.alloc (.cells #[.string q.1.str, .string q.2.str] 25 (0, 0)) = w0 at *
      refine (PX' _).mono ?_; rintro e w1 ⟨rfl, hb1⟩
      have hbw1 := nxAlloc (nx hb0 hb1) (.cells #[.string P.1.str, .string R.2.str] 25 (0, 0))
      have hx1 := heap_keep (nxAlloc (Below.refl w1.heap.size w1) (.cells #[.string P.1.str, .string R.2.str] 25 (0, 0))) (heap_keep hb1 hx0)
      have hz := heap_alloc_at w1 (.cells #[.string P.1.str, .string R.2.str] 25 (0, 0))
      obtain ⟨xa, xb, xc⟩ := two_facts hx1
      obtain ⟨za, zb, zc⟩ := two_facts hz
      clear hb0 hb1 ya yb yc kc hx0 hk0 hy
      go_wp2_with fail
      go_ret
      exact ⟨rfl, hbw1⟩
    · rw [e3]
      have e4 : ¬ P.1.str.toList = R.1.str.toList := fun e => e1 e.symm
      clear e3
      go_enter Try.func72, Try.ntmps72
      have hb0 := nxAlloc (Below.refl w.heap.size w) (.cells #[.string q.1.str, .string q.2.str] 25 (0, 0))
      have hy := heap_alloc_at w (.cells #[.string q.1.str, .string q.2.str] 25 (0, 0))
      have hx0 := heap_keep (nxAlloc (Below.refl w.heap.size w) (.cells #[.string q.1.str, .string q.2.str] 25 (0, 0))) hxp
      have hk0 := heap_keep (nxAlloc (Below.refl w.heap.size w) (.cells #[.string q.1.str, .string q.2.str] 25 (0, 0))) hxk
      obtain ⟨ya, yb, yc⟩ := two_facts hy
      have kc := one_cell hk0
      go_wp2_with fail
      generalize w.alloc (.cells #[.string q.1.str, .string q.2.str] 25 (0, 0)) = w0 at *
      refine (PX' _).mono ?_; rintro e w1 ⟨rfl, hb1⟩
      have hbw1 := nxAlloc (nx hb0 hb1) (.cells #[.string R.1.str, .string R.2.str] 25 (0, 0))
      have hx1 := heap_keep (nxAlloc (Below.refl w1.heap.size w1) (.cells #[.string R.1.str, .string R.2.str] 25 (0, 0))) (heap_keep hb1 hx0)
      have hz := heap_alloc_at w1 (.cells #[.string R.1.str, .string R.2.str] 25 (0, 0))
      obtain ⟨xa, xb, xc⟩ := two_facts hx1
      obtain ⟨za, zb, zc⟩ := two_facts hz
      clear hb0 hb1 ya yb yc kc hx0 hk0 hy
      go_wp2_with fail
      go_ret
      exact ⟨rfl, hbw1⟩
  · rw [if_neg h8] at PX
    have PX' : ∀ w, Calls Try.prog 73 #[.agg #[.string q.1.str, .string q.2.str], .int .i64 (k : Int)] w (Gives (.tuple #[.agg #[.string ⟨#[]⟩, .string ⟨#[]⟩], .bool false]) w) := PX
    rw [eqPr_no (r := pwU q k) (s := P) (fun e => h8 (by rw [e]; exact hP))]
    clear PX h8
    go_enter Try.func72, Try.ntmps72
    have hb0 := nxAlloc (Below.refl w.heap.size w) (.cells #[.string q.1.str, .string q.2.str] 25 (0, 0))
    have hy := heap_alloc_at w (.cells #[.string q.1.str, .string q.2.str] 25 (0, 0))
    have hx0 := heap_keep (nxAlloc (Below.refl w.heap.size w) (.cells #[.string q.1.str, .string q.2.str] 25 (0, 0))) hxp
    have hk0 := heap_keep (nxAlloc (Below.refl w.heap.size w) (.cells #[.string q.1.str, .string q.2.str] 25 (0, 0))) hxk
    obtain ⟨ya, yb, yc⟩ := two_facts hy
    have kc := one_cell hk0
    go_wp2_with fail
    generalize w.alloc (.cells #[.string q.1.str, .string q.2.str] 25 (0, 0)) = w0 at *
    refine (PX' _).mono ?_; rintro e w1 ⟨rfl, hb1⟩
    have hbw1 := nxAlloc (nx hb0 hb1) (.cells #[.string ⟨#[]⟩, .string ⟨#[]⟩] 25 (0, 0))
    have hx1 := heap_keep (nxAlloc (Below.refl w1.heap.size w1) (.cells #[.string ⟨#[]⟩, .string ⟨#[]⟩] 25 (0, 0))) (heap_keep hb1 hx0)
    have hz := heap_alloc_at w1 (.cells #[.string ⟨#[]⟩, .string ⟨#[]⟩] 25 (0, 0))
    obtain ⟨xa, xb, xc⟩ := two_facts hx1
    obtain ⟨za, zb, zc⟩ := two_facts hz
    clear hb0 hb1 ya yb yc kc hx0 hk0 hy
    go_wp2_with fail
    go_ret
    exact ⟨rfl, hbw1⟩
end Go.Proofs.Ytkpganpojdboeaa

/-! HeldW -/
namespace Go.Proofs.Ytkpganpojdboeaa
open Go.RowKit

section
variable {P : Program} {ops : Array Oper} {Q : Exit → Act → World → Prop} {md : Region.Mode}

theorem held_mono {S S' : World → Prop} (hSS : ∀ w, S' w → S w) : ∀ (fuel : Nat) (listed : Array Bool) (a : Act) (w : World),
    wpAnyH P md ops Q S' fuel listed a w → wpAnyH P md ops Q S fuel listed a w
  | 0, _, _, _, h => h
  | fuel + 1, _, _, _, h => ⟨h.1, fun i hi => wpOp_mono (fun a' w' h' => ⟨hSS _ h'.1, held_mono hSS fuel _ a' w' h'.2⟩) (h.2 i hi)⟩

/-- One operation alone may come up; behind it the condition may be another one. -/
theorem held_one {S : World → Prop} {fuel : Nat} {listed : Array Bool} {a : Act} {w : World} (i : Nat) {o : Oper} (ho : ops[i]? = some o) (hr : Region.ready md ops listed = [i])
    (h : ∀ K' : Act → World → Prop, Shut (∀ (S' : World → Prop) a w, (∀ w, S' w → S w) → S' w → wpAnyH P md ops Q S' fuel (listed.setIfInBounds i true) a w → K' a w) → if Region.wanted o (yielded ops a.tmps) = true then Oper.wp P o a w K' Q else K' (a.put o.dst undef) w) :
    wpAnyH P md ops Q S (fuel + 1) listed a w :=
  wpAnyH_ready hr (by simp) (AllReadyH.cons ho (fun K hK => h K (fun _ a w hSS hS hW => hK.out a w (hSS _ hS) (fun _ => held_mono hSS _ _ _ _ hW))) AllReadyH.nil)
/-- Two operations may come up, whichever first. -/
theorem held_two {S : World → Prop} {fuel : Nat} {listed : Array Bool} {a : Act} {w : World} (i j : Nat) {oi oj : Oper} (hoi : ops[i]? = some oi) (hoj : ops[j]? = some oj) (hr : Region.ready md ops listed = [i, j])
    (h : ∀ K' : Act → World → Prop, Shut (∀ (S' : World → Prop) a w, (∀ w, S' w → S w) → S' w → wpAnyH P md ops Q S' fuel (listed.setIfInBounds i true) a w → K' a w) → if Region.wanted oi (yielded ops a.tmps) = true then Oper.wp P oi a w K' Q else K' (a.put oi.dst undef) w)
    (k : ∀ K' : Act → World → Prop, Shut (∀ (S' : World → Prop) a w, (∀ w, S' w → S w) → S' w → wpAnyH P md ops Q S' fuel (listed.setIfInBounds j true) a w → K' a w) → if Region.wanted oj (yielded ops a.tmps) = true then Oper.wp P oj a w K' Q else K' (a.put oj.dst undef) w) :
    wpAnyH P md ops Q S (fuel + 1) listed a w :=
  wpAnyH_ready hr (by simp) (AllReadyH.cons hoi (fun K hK => h K (fun _ a w hSS hS hW => hK.out a w (hSS _ hS) (fun _ => held_mono hSS _ _ _ _ hW)))
    (AllReadyH.cons hoj (fun K hK => k K (fun _ a w hSS hS hW => hK.out a w (hSS _ hS) (fun _ => held_mono hSS _ _ _ _ hW))) AllReadyH.nil))
end
end Go.Proofs.Ytkpganpojdboeaa

/-! Src -/
namespace Go.Proofs.Ytkpganpojdboeaa
open Go.RowKit

theorem CellsS.form0 {b1 : Nat} {w : World} {v : Value} {xs : List ByteArray} (h : CellsS b1 w v xs) :
    ∃ oa cap, v = .slice oa xs.length cap ∧ xs.length ≤ cap ∧ cap ≤ maxLen ∧ ∀ i, i < xs.length → ∃ g, oa = some ⟨g, 0, none⟩ ∧ b1 ≤ g ∧ g < w.heap.size ∧ w.cell? ⟨g, i, none⟩ = some (.string (xs.getD i ⟨#[]⟩)) := by
  rcases h with ⟨rfl, rfl⟩ | ⟨g, cap, rfl, h1, h2, h3, h4, h5, _⟩
  · exact ⟨none, 0, rfl, Nat.le_refl _, Nat.zero_le _, fun i hi => by simp at hi⟩
  · exact ⟨some ⟨g, 0, none⟩, cap, rfl, h3, h4, fun i hi => ⟨g, rfl, h1, h2, h5 i hi⟩⟩

theorem CellsS.at1 {b1 : Nat} {w : World} {g n cap : Nat} {ss : List ByteArray} (h : CellsS b1 w (.slice (some ⟨g, 0, none⟩) n cap) ss) {i : Nat} {t : ByteArray} (hi : ss[i]? = some t) : w.cell? ⟨g, i, none⟩ = some (.string t) := by
  rcases h with ⟨h, _⟩ | ⟨g', cap', h, _, _, _, _, hc, _⟩
  · cases h
  · cases h
    have hl := (List.getElem?_eq_some_iff.1 hi).1
    rw [hc i hl]
    simp [List.getD_eq_getElem?_getD, hi]

/-- A slice value from which the cells ys can be read. -/
def SrcV (w : World) (u : Value) (ys : List Value) : Prop :=
  (u = .slice none 0 0 ∧ ys = []) ∨ ∃ ad c, u = .slice (some ad) ys.length c ∧ ∀ j x, ys[j]? = some x → w.cell? (ad.add j) = some x

theorem SrcV.keep {w w' : World} {u : Value} {ys : List Value} (h : SrcV w u ys) (hb : Below w.heap.size w w') : SrcV w' u ys := by
  rcases h with h | ⟨ad, c, h1, h2⟩
  · exact .inl h
  · refine .inr ⟨ad, c, h1, fun j x hj => ?_⟩
    have hc := h2 j x hj
    exact (hb.cell (World.block_lt_of_cell? w _ hc)).trans hc

theorem wpList_appSrc {P : Program} {w : World} {ops : Array Oper} {rest : List Oper} {o : Oper} {a : Act} {Q : Exit → Act → World → Prop} (hgd : o.guard = none) (s x : Operand) (t : TypeId)
    (ho : o.op = .call { callee := .builtin .append, args := #[s, x], argTypes := #[t, t] })
    (base : Nat) (e : TypeId) (i : TypeInfo) (z : Value) (bytes : Nat) (ht : P.underlying t = some (.slice e)) (hi : P.info? e = some i) (hz : i.zero = some z)
    (hsize : i.size = 1) (hby : i.bytes = bytes) (hzs : z.cells.size = 1)
    (v : Value) (n : Nat) (xs : List Value) (hs : a.eval s = v) (hown : w.ownsRow base e 1 v n xs)
    (u : Value) (ys : List Value) (hx : a.eval x = u) (hsrc : SrcV w u ys) (h1 : ∀ y ∈ ys, y.oneCell' = true)
    (h63 : n + ys.length ≤ maxLen) (hbytes : (n + ys.length) * bytes ≤ 140737488355328) (hbase : base ≤ w.heap.size)
    (h : ∀ v' w', w'.ownsRow base e 1 v' (n + ys.length) (xs ++ ys) → Below base w w' → (v' = .slice none 0 0 → v = .slice none 0 0) → wpList P ops Q rest (a.put o.dst v') w') : wpList P ops Q (o :: rest) a w := by
  rcases hsrc with ⟨rfl, rfl⟩ | ⟨ad, c, rfl, hc⟩
  · refine wpList_append_own_none hgd s x t ho base e i 1 ht hi v n xs hs hown hx ?_
    exact h v w (by simpa using hown) (Below.refl _ _) id
  · refine wpList_append_own w hgd s x t ho base e i z 1 bytes ht hi hz hsize hby hzs (by decide) v n xs hs hown ad ys.length c ys hx (by simp) hc h1 h63 hbytes hbase ?_
    intro v' w' hown' hg hn
    exact h v' w' hown' ((Below.refl base w).grown hg hbase (fun k hk => ownsRow_ge hown k hk)) (fun e => (hn.1 e).1)

theorem row_shape {w : World} {base : Nat} {e : TypeId} {size : Nat} {v : Value} {n : Nat} {xs : List Value} (h : w.ownsRow base e size v n xs) (hn : v ≠ .slice none 0 0) : ∃ g cap, v = .slice (some ⟨g, 0, none⟩) n cap ∧ base ≤ g := by
  rcases h.2 with ⟨hv, _⟩ | ⟨g, cap, cur, hv, hb, _⟩
  · exact absurd hv hn
  · exact ⟨g, cap, hv, hb⟩

/-- An empty slice in a block of its own. -/
theorem ownsRow_empty (w : World) (e : TypeId) : (w.alloc (.cells #[] e (0, 0))).ownsRow w.heap.size e 1 (.slice (some ⟨w.heap.size, 0, none⟩) 0 0) 0 [] :=
  World.ownsRow_made w #[] 0 (Nat.le_refl _) (Nat.zero_le _) rfl

/-- The parts of a slice of the call's own, as sources. -/
theorem src_take {base : Nat} {w : World} {e : TypeId} {g n cap : Nat} {xs : List Value} (h : w.ownsRow base e 1 (.slice (some ⟨g, 0, none⟩) n cap) n xs) (k : Nat) (hk : k ≤ n) (c : Nat) : SrcV w (.slice (some ⟨g, 0, none⟩) k c) (xs.take k) := by
  have hl := h.1
  refine .inr ⟨_, c, by rw [List.length_take]; congr 1; omega, fun j x hj => ?_⟩
  have hj' := (List.getElem?_eq_some_iff.1 hj).1
  rw [List.length_take] at hj'
  rw [List.getElem?_take_of_lt (by omega)] at hj
  rw [addr_add, World.ownsRow.cellAt h j (by omega)]
  exact hj
theorem src_drop {base : Nat} {w : World} {e : TypeId} {g n cap : Nat} {xs : List Value} (h : w.ownsRow base e 1 (.slice (some ⟨g, 0, none⟩) n cap) n xs) (k : Nat) (hk : k ≤ n) (c : Nat) : SrcV w (.slice (some ⟨g, k, none⟩) (n - k) c) (xs.drop k) := by
  have hl := h.1
  refine .inr ⟨_, c, by rw [List.length_drop]; congr 1; omega, fun j x hj => ?_⟩
  have hj' := (List.getElem?_eq_some_iff.1 hj).1
  rw [List.length_drop] at hj'
  rw [List.getElem?_drop] at hj
  have ea : (⟨g, k, none⟩ : Addr).add j = ⟨g, k + j, none⟩ := by
    unfold Addr.add
    split
    · next h0 => rw [h0]; simp
    · rfl
  rw [ea, World.ownsRow.cellAt h (k + j) (by omega)]
  exact hj
theorem src_cells {b1 : Nat} {w : World} {g n cap : Nat} {xs : List ByteArray} (h : CellsS b1 w (.slice (some ⟨g, 0, none⟩) n cap) xs) (k : Nat) (hk : k ≤ xs.length) (c : Nat) : SrcV w (.slice (some ⟨g, 0, none⟩) k c) ((xs.take k).map Value.string) := by
  rcases h with ⟨h, _⟩ | ⟨g', cap', h, _, _, _, _, hc, _⟩
  · cases h
  · cases h
    refine .inr ⟨_, c, by rw [List.length_map, List.length_take]; congr 1; omega, fun j x hj => ?_⟩
    have hj' := (List.getElem?_eq_some_iff.1 hj).1
    rw [List.length_map, List.length_take] at hj'
    rw [List.getElem?_map, List.getElem?_take_of_lt (by omega), List.getElem?_eq_getElem (by omega)] at hj
    have hx := hc j (by omega)
    rw [List.getD_eq_getElem?_getD, List.getElem?_eq_getElem (by omega)] at hx
    rw [addr_add, hx]
    exact hj
theorem src_end {w : World} (a : Option Addr) (c : Nat) (h : a = none → c = 0) : SrcV w (.slice a 0 c) [] := by
  cases a with
  | none => rw [h rfl]; exact .inl ⟨rfl, rfl⟩
  | some ad => exact .inr ⟨ad, c, rfl, fun j x hj => by simp at hj⟩
end Go.Proofs.Ytkpganpojdboeaa

/-! Ls1 -/
namespace Go.Proofs.Ytkpganpojdboeaa
open Go.RowKit

/-- A slice of texts, from whatever place in its block on. -/
def ReadS (base : Nat) (w : World) (v : Value) (ss : List ByteArray) : Prop :=
  ∃ oa cap, v = .slice oa ss.length cap ∧ ss.length ≤ cap ∧ cap ≤ maxLen ∧ ∀ i, i < ss.length → ∃ g q, oa = some ⟨g, q, none⟩ ∧ base ≤ g ∧ g < w.heap.size ∧ w.cell? ⟨g, q + i, none⟩ = some (.string (ss.getD i ⟨#[]⟩))
theorem ReadS.mono {base base' : Nat} {w : World} {v : Value} {ss : List ByteArray} (h : ReadS base w v ss) (hb : base' ≤ base) : ReadS base' w v ss := by
  obtain ⟨oa, cap, h1, h2, h3, h4⟩ := h
  refine ⟨oa, cap, h1, h2, h3, fun i hi => ?_⟩
  obtain ⟨g, q, e, k, r⟩ := h4 i hi
  exact ⟨g, q, e, Nat.le_trans hb k, r⟩
theorem ReadS.keep {base : Nat} {w w' : World} {v : Value} {ss : List ByteArray} (h : ReadS base w v ss) (hb : Below w.heap.size w w') : ReadS base w' v ss := by
  obtain ⟨oa, cap, h1, h2, h3, h4⟩ := h
  refine ⟨oa, cap, h1, h2, h3, fun i hi => ?_⟩
  obtain ⟨g, q, e, k, hg, hc⟩ := h4 i hi
  exact ⟨g, q, e, k, Nat.lt_of_lt_of_le hg hb.size, (hb.cell (p := ⟨g, q + i, none⟩) hg).trans hc⟩
theorem CellsS.read {b : Nat} {w : World} {v : Value} {ss : List ByteArray} (h : CellsS b w v ss) : ReadS b w v ss := by
  rcases h with ⟨rfl, rfl⟩ | ⟨g, cap, rfl, hb, h2, h3, h4, h5, _⟩
  · exact ⟨none, 0, rfl, Nat.le_refl _, Nat.zero_le _, fun i hi => by simp at hi⟩
  · exact ⟨_, cap, rfl, h3, h4, fun i hi => ⟨g, 0, rfl, hb, h2, by rw [Nat.zero_add]; exact h5 i hi⟩⟩
/-- Texts in their order, none twice. -/
def IncS (ss : List ByteArray) : Prop := ∀ i j, i < j → j < ss.length → Go.Op.bytesLess (ss.getD i ⟨#[]⟩).toList (ss.getD j ⟨#[]⟩).toList = true
theorem bytesLess_irr : ∀ l : List UInt8, Go.Op.bytesLess l l = false := by
  intro l
  induction l with
  | nil => rfl
  | cons a l ih => simp [Go.Op.bytesLess, ih]
theorem IncS.ne {ss : List ByteArray} (h : IncS ss) {i j : Nat} (hi : i < j) (hj : j < ss.length) : ¬ (ss.getD i ⟨#[]⟩).toList = (ss.getD j ⟨#[]⟩).toList := by
  intro e
  have h1 := h i j hi hj
  rw [e, bytesLess_irr] at h1
  cases h1
def GivesRead (base : Nat) (ss : List ByteArray) (w : World) (e : Ending) (w' : World) : Prop := ∃ v, ReadS base w' v ss ∧ Below w.heap.size w w' ∧ e = .returned v
theorem take_getD {ss : List ByteArray} {h i : Nat} (hi : i < h) (_hh : h ≤ ss.length) : (ss.take h).getD i ⟨#[]⟩ = ss.getD i ⟨#[]⟩ := by
  simp [List.getD_eq_getElem?_getD, hi]
theorem drop_getD {ss : List ByteArray} (h i : Nat) : (ss.drop h).getD i ⟨#[]⟩ = ss.getD (h + i) ⟨#[]⟩ := by
  simp [List.getD_eq_getElem?_getD]
theorem IncS.take {ss : List ByteArray} (h : IncS ss) {k : Nat} (hk : k ≤ ss.length) : IncS (ss.take k) := by
  intro i j hi hj
  rw [List.length_take] at hj
  rw [take_getD (by omega) hk, take_getD (by omega) hk]
  exact h i j hi (by omega)
theorem IncS.drop {ss : List ByteArray} (h : IncS ss) (k : Nat) : IncS (ss.drop k) := by
  intro i j hi hj
  rw [List.length_drop] at hj
  rw [drop_getD, drop_getD]
  exact h _ _ (by omega) (by omega)
theorem take_snocS {ss : List ByteArray} {k : Nat} (h : k < ss.length) : ss.take (k + 1) = ss.take k ++ [ss.getD k ⟨#[]⟩] := by
  rw [List.take_succ_eq_append_getElem h]; simp [h]
theorem one_str7 (s : ByteArray) : ∀ u ∈ [Value.string s], u.oneCell' = true := by intro u hu; simp at hu; subst hu; rfl
theorem OwnS.one5 {base : Nat} {w : World} {v : Value} {xs : List ByteArray} {m : ByteArray} (h : w.ownsRow base 9 1 v (xs.length + 1) (xs.map Value.string ++ [Value.string m])) : OwnS base w v (xs ++ [m]) := by
  unfold OwnS
  rw [List.map_append, List.length_append]
  exact h

set_option maxRecDepth 100000 in
set_option maxHeartbeats 8000000 in
theorem lnSorted_any (base : Nat) : ∀ (n : Nat) (ss : List ByteArray), ss.length = n → n ≤ 1000 → IncS ss → ∀ (v : Value) (w : World), base ≤ w.heap.size → ReadS base w v ss →
    Calls Try.prog 98 #[v] w (GivesRead base ss w) := by
  obtain ⟨i0, hi, hz0, hz1, hz2⟩ := info_parts info_str
  intro n
  induction n using Nat.strongRecOn with
  | _ n IH =>
    intro ss hn hn9 hinc v w hbs hv
    by_cases h2 : n < 2
    · have hv0 := Lib.hid hv
      obtain ⟨oa, cap, rfl, h3, h4, h5⟩ := hv
      rw [hn] at h3 hv0 ⊢
      have hlt : (n : Int) < 2 := by omega
      clear h5 hinc IH
      have HN := Lib.hid hn
      clear hn
      go_enter Try.func98, Try.ntmps98
      go_wp2_with fail
      go_ret
      exact ⟨_, hv0.out, Below.refl _ _, rfl⟩
    · have hlt : ¬ (n : Int) < 2 := by omega
      obtain ⟨h, hh⟩ : ∃ h, h = n / 2 := ⟨_, rfl⟩
      have hh1 : 1 ≤ h := by omega
      have hh2 : h < n := by omega
      have eq2 : (n : Int).tdiv 2 = (h : Int) := by rw [hh, Int.tdiv_eq_ediv_of_nonneg (by omega)]; omega
      have hwr : IntKind.i64.wrap (h : Int) = (h : Int) := by rw [IntKind.wrap_i64]; omega
      have R1 : ∀ v w, base ≤ w.heap.size → ReadS base w v (ss.take h) → Calls Try.prog 98 #[v] w (GivesRead base (ss.take h) w) := fun v w hb hv => IH h (by omega) (ss.take h) (by rw [List.length_take]; omega) (by omega) (hinc.take (by omega)) v w hb hv
      have R2 : ∀ v w, base ≤ w.heap.size → ReadS base w v (ss.drop h) → Calls Try.prog 98 #[v] w (GivesRead base (ss.drop h) w) := fun v w hb hv => IH (n - h) (by omega) (ss.drop h) (by rw [List.length_drop]; omega) (by omega) (hinc.drop h) v w hb hv
      clear IH
      obtain ⟨oa, cap, rfl, h3, h4, h5⟩ := hv
      obtain ⟨g, q, rfl, hbg, hg, _⟩ := h5 0 (by omega)
      have V1 : ReadS base w (.slice (some ⟨g, q, none⟩) h cap) (ss.take h) := ⟨_, cap, by rw [List.length_take, Nat.min_eq_left (by omega)], by rw [List.length_take]; omega, h4, fun i hi => by
        rw [List.length_take] at hi
        obtain ⟨g', q', e, hk', hg', hc⟩ := h5 i (by omega)
        exact ⟨g', q', e, hk', hg', by rw [take_getD (by omega) (by omega)]; exact hc⟩⟩
      have V2 : ReadS base w (.slice (some ⟨g, q + h, none⟩) (n - h) (cap - h)) (ss.drop h) := ⟨_, cap - h, by rw [List.length_drop, hn], by rw [List.length_drop]; omega, by omega, fun i hi => by
        rw [List.length_drop] at hi
        obtain ⟨g', q', e, hk', hg', hc⟩ := h5 (h + i) (by omega)
        injection e with e
        injection e with e1 e2
        subst e1 e2
        exact ⟨g, q + h, rfl, hk', hg', by rw [drop_getD, Nat.add_assoc]; exact hc⟩⟩
      rw [hn] at h3 ⊢
      unfold maxLen at h4
      have HV1 := Lib.hid V1
      have HV2 := Lib.hid V2
      have HN := Lib.hid hn
      have HI := Lib.hid hinc
      have hcn : ¬ cap = h := by omega
      have hch : (h : Int) ≤ (cap : Int) := by omega
      have h0h : (0 : Int) ≤ (h : Int) := by omega
      have h63 : (n : Int) ≤ 1000 := by omega
      have hh3 : (h : Int) ≤ (n : Int) := by omega
      clear V1 V2 hn hinc h5 hh
      go_enter Try.func98, Try.ntmps98
      go_wp2_with fail
      have hzr := Below.refl w.heap.size w
      refine wp_region_held_drew (S := (fun w' : World => 0 ≤ w'.heap.size)) (by kernel_rfl) (Nat.zero_le _) (fun hH0 => ?_)
      refine wpAnyH_take (i := 0) (oi := ?oi201) (v := ?vv201) ?hi201 ?hn201 ?hf201 ?hr201 ?hq201 (Or.inl ⟨?hg201, ?hy201⟩) hH0 ?rest201
      case hi201 => (simp only [List.getElem?_toArray, List.getElem?_cons_zero]; rfl)
      case hn201 => kernel_rfl
      case hf201 => kernel_rfl
      case hr201 => kernel_rfl
      case hg201 => rfl
      case hy201 => (intro w hSw; (try dsimp only at hSw); go_simp; first | done | with_reducible rfl)
      case hq201 => exact fun _ _ _ h => h
      try dsimp only [Act.put]
      refine wpAnyH_take (i := 1) (oi := ?oi202) (v := ?vv202) ?hi202 ?hn202 ?hf202 ?hr202 ?hq202 (Or.inl ⟨?hg202, ?hy202⟩) hH0 ?rest202
      case hi202 => (simp only [List.getElem?_toArray, List.getElem?_cons_succ, List.getElem?_cons_zero]; rfl)
      case hn202 => kernel_rfl
      case hf202 => kernel_rfl
      case hr202 => kernel_rfl
      case hg202 => rfl
      case hy202 => (intro w hSw; (try dsimp only at hSw); go_simp; first | done | with_reducible rfl)
      case hq202 => exact fun _ _ _ h => h
      try dsimp only [Act.put]
      refine wpAnyH_take (i := 2) (oi := ?oi203) (v := ?vv203) ?hi203 ?hn203 ?hf203 ?hr203 ?hq203 (Or.inl ⟨?hg203, ?hy203⟩) hH0 ?rest203
      case hi203 => (simp only [List.getElem?_toArray, List.getElem?_cons_succ, List.getElem?_cons_zero]; rfl)
      case hn203 => kernel_rfl
      case hf203 => kernel_rfl
      case hr203 => kernel_rfl
      case hg203 => rfl
      case hy203 => (intro w hSw; (try dsimp only at hSw); go_simp; first | done | with_reducible rfl)
      case hq203 => exact fun _ _ _ h => h
      try dsimp only [Act.put]
      refine wpAnyH_take (i := 3) (oi := ?oi204) (v := ?vv204) ?hi204 ?hn204 ?hf204 ?hr204 ?hq204 (Or.inl ⟨?hg204, ?hy204⟩) hH0 ?rest204
      case hi204 => (simp only [List.getElem?_toArray, List.getElem?_cons_succ, List.getElem?_cons_zero]; rfl)
      case hn204 => kernel_rfl
      case hf204 => kernel_rfl
      case hr204 => kernel_rfl
      case hg204 => rfl
      case hy204 => (intro w hSw; (try dsimp only at hSw); go_simp; first | done | with_reducible rfl)
      case hq204 => exact fun _ _ _ h => h
      try dsimp only [Act.put]
      refine wpAnyH_take (i := 4) (oi := ?oi205) (v := ?vv205) ?hi205 ?hn205 ?hf205 ?hr205 ?hq205 (Or.inl ⟨?hg205, ?hy205⟩) hH0 ?rest205
      case hi205 => (simp only [List.getElem?_toArray, List.getElem?_cons_succ, List.getElem?_cons_zero]; rfl)
      case hn205 => kernel_rfl
      case hf205 => kernel_rfl
      case hr205 => kernel_rfl
      case hg205 => rfl
      case hy205 => (intro w hSw; (try dsimp only at hSw); go_simp; first | done | with_reducible rfl)
      case hq205 => exact fun _ _ _ h => h
      try dsimp only [Act.put]
      refine wpAnyH_take (i := 6) (oi := ?oi206) (v := ?vv206) ?hi206 ?hn206 ?hf206 ?hr206 ?hq206 (Or.inl ⟨?hg206, ?hy206⟩) hH0 ?rest206
      case hi206 => (simp only [List.getElem?_toArray, List.getElem?_cons_succ, List.getElem?_cons_zero]; rfl)
      case hn206 => kernel_rfl
      case hf206 => kernel_rfl
      case hr206 => kernel_rfl
      case hg206 => rfl
      case hy206 => (intro w hSw; (try dsimp only at hSw); go_simp; first | done | with_reducible rfl)
      case hq206 => exact fun _ _ _ h => h
      try dsimp only [Act.put]
      refine wpAnyH_take (i := 7) (oi := ?oi207) (v := ?vv207) ?hi207 ?hn207 ?hf207 ?hr207 ?hq207 (Or.inl ⟨?hg207, ?hy207⟩) hH0 ?rest207
      case hi207 => (simp only [List.getElem?_toArray, List.getElem?_cons_succ, List.getElem?_cons_zero]; rfl)
      case hn207 => kernel_rfl
      case hf207 => kernel_rfl
      case hr207 => kernel_rfl
      case hg207 => rfl
      case hy207 => (intro w hSw; (try dsimp only at hSw); go_simp; first | done | with_reducible rfl)
      case hq207 => exact fun _ _ _ h => h
      try dsimp only [Act.put]
      refine wpAnyH_take (i := 8) (oi := ?oi208) (v := ?vv208) ?hi208 ?hn208 ?hf208 ?hr208 ?hq208 (Or.inl ⟨?hg208, ?hy208⟩) hH0 ?rest208
      case hi208 => (simp only [List.getElem?_toArray, List.getElem?_cons_succ, List.getElem?_cons_zero]; rfl)
      case hn208 => kernel_rfl
      case hf208 => kernel_rfl
      case hr208 => kernel_rfl
      case hg208 => rfl
      case hy208 => (intro w hSw; (try dsimp only at hSw); go_simp; first | done | with_reducible rfl)
      case hq208 => exact fun _ _ _ h => h
      try dsimp only [Act.put]
      refine wpAnyH_take (i := 9) (oi := ?oi209) (v := ?vv209) ?hi209 ?hn209 ?hf209 ?hr209 ?hq209 (Or.inl ⟨?hg209, ?hy209⟩) hH0 ?rest209
      case hi209 => (simp only [List.getElem?_toArray, List.getElem?_cons_succ, List.getElem?_cons_zero]; rfl)
      case hn209 => kernel_rfl
      case hf209 => kernel_rfl
      case hr209 => kernel_rfl
      case hg209 => rfl
      case hy209 => (intro w hSw; (try dsimp only at hSw); go_simp; first | done | with_reducible rfl)
      case hq209 => exact fun _ _ _ h => h
      try dsimp only [Act.put]
      refine wpAnyH_take (i := 10) (oi := ?oi210) (v := ?vv210) ?hi210 ?hn210 ?hf210 ?hr210 ?hq210 (Or.inl ⟨?hg210, ?hy210⟩) hH0 ?rest210
      case hi210 => (simp only [List.getElem?_toArray, List.getElem?_cons_succ, List.getElem?_cons_zero]; rfl)
      case hn210 => kernel_rfl
      case hf210 => kernel_rfl
      case hr210 => kernel_rfl
      case hg210 => rfl
      case hy210 => (intro w hSw; (try dsimp only at hSw); go_simp; first | done | with_reducible rfl)
      case hq210 => exact fun _ _ _ h => h
      try dsimp only [Act.put]
      refine held_one 5 rfl (by kernel_rfl) (fun K hK => ?_)
      go_simp
      refine (R1 _ _ (Nat.le_trans hbs hzr.drew.size) (ReadS.keep HV1.out hzr.drew)).mono ?_; rintro e w21 ⟨va, ra, hb21, rfl⟩
      have hb21' := nx hzr.drew hb21
      go_wp2_with fail
      have hH1 : (fun w' : World => 0 ≤ w'.heap.size) _ := Nat.zero_le w21.heap.size
      refine hK.out (fun w' : World => 0 ≤ w'.heap.size) _ _ (fun _ h => h) hH1 ?_
      clear hK K
      try dsimp only [Act.put]
      refine held_one 11 rfl (by kernel_rfl) (fun K hK => ?_)
      go_simp
      refine (R2 _ _ (Nat.le_trans hbs hb21'.size) (ReadS.keep HV2.out hb21')).mono ?_; rintro e w22 ⟨vb, rb, hb22, rfl⟩
      have hb22' := nx hb21' hb22
      replace ra := ReadS.keep ra hb22
      go_wp2_with fail
      have hH2 : (fun w' : World => 0 ≤ w'.heap.size) _ := Nat.zero_le w22.heap.size
      refine hK.out (fun w' : World => 0 ≤ w'.heap.size) _ _ (fun _ h => h) hH2 ?_
      clear hK K
      try dsimp only [Act.put]
      refine wpAnyH_take (i := 12) (oi := ?oi211) (v := ?vv211) ?hi211 ?hn211 ?hf211 ?hr211 ?hq211 (Or.inl ⟨?hg211, ?hy211⟩) hH2 ?rest211
      case hi211 => (simp only [List.getElem?_toArray, List.getElem?_cons_succ, List.getElem?_cons_zero]; rfl)
      case hn211 => kernel_rfl
      case hf211 => kernel_rfl
      case hr211 => kernel_rfl
      case hg211 => rfl
      case hy211 => (intro w hSw; (try dsimp only at hSw); go_simp; first | done | with_reducible rfl)
      case hq211 => exact fun _ _ _ h => h
      try dsimp only [Act.put]
      refine wpAnyH_take (i := 13) (oi := ?oi212) (v := ?vv212) ?hi212 ?hn212 ?hf212 ?hr212 ?hq212 (Or.inl ⟨?hg212, ?hy212⟩) hH2 ?rest212
      case hi212 => (simp only [List.getElem?_toArray, List.getElem?_cons_succ, List.getElem?_cons_zero]; rfl)
      case hn212 => kernel_rfl
      case hf212 => kernel_rfl
      case hr212 => kernel_rfl
      case hg212 => rfl
      case hy212 => (intro w hSw; (try dsimp only at hSw); go_simp; first | done | with_reducible rfl)
      case hq212 => exact fun _ _ _ h => h
      try dsimp only [Act.put]
      refine wpAnyH_done (by kernel_rfl) ?_ _
      simp only [List.setIfInBounds_toArray, List.set_cons_zero, List.set_cons_succ]
      obtain ⟨oa1, c1, rfl, p1, p2, p3⟩ := ra
      obtain ⟨oa2, c2, rfl, p4, p5, p6⟩ := rb
      have el1 : (ss.take h).length = h := by rw [List.length_take]; have := HN.out; omega
      have el2 : (ss.drop h).length = n - h := by rw [List.length_drop, HN.out]
      rw [el1] at p1 p3 ⊢
      rw [el2] at p4 p6 ⊢
      unfold maxLen at p2 p5
      have HA := Lib.hid p3
      have HB := Lib.hid p6
      obtain ⟨m, hm⟩ : ∃ m, m = n - h := ⟨_, rfl⟩
      rw [← hm] at p4 ⊢
      have hm1 : h + m = n := by omega
      have HM := Lib.hid hm
      clear hm p3 p6 el1 el2 hb21 hb22 hb21' hzr R1 R2 HV1 HV2 h3 h4 hcn hch hwr eq2
      go_wp2_with fail
      go_loopw [5, 6, 7] (fun u i j wr => ∃ a b : Nat, a ≤ h ∧ b ≤ m ∧ (b = 0 ∨ a = h) ∧ i = .int .i64 (a : Int) ∧ j = .int .i64 (b : Int) ∧ OwnS w22.heap.size wr u (ss.take (a + b)) ∧ Below w22.heap.size w22 wr ∧ (a + b = 0 → u = .slice none 0 0)) (fun _ i j _ => n - ((intOf i).toNat + (intOf j).toNat))
      case atStart => exact ⟨0, 0, Nat.zero_le _, Nat.zero_le _, .inl rfl, rfl, rfl, OwnS.nil _ _, Below.refl _ _, fun _ => rfl⟩
      case round =>
        obtain ⟨a, b, ha, hb, hab, rfl, rfl, hown, hbw, hu0⟩ := hrel
        by_cases hlt1 : a < h
        · obtain rfl : b = 0 := by omega
          obtain ⟨g1, q1, rfl, _, hg1, a1⟩ := HA.out a hlt1
          obtain ⟨g2, q2, rfl, _, hg2, b1⟩ := HB.out 0 (by rw [← HM.out]; omega)
          have k1 := (hbw.cell (p := ⟨g1, q1 + a, none⟩) hg1).trans a1
          have k2 := (hbw.cell (p := ⟨g2, q2 + 0, none⟩) hg2).trans b1
          rw [take_getD hlt1 (by rw [HN.out]; omega)] at k1
          rw [drop_getD] at k2
          simp only [Nat.add_zero] at k1 k2 hown
          have hless := HI.out a h hlt1 (by rw [HN.out]; omega)
          have hsn := take_snocS (ss := ss) (k := a) (by rw [HN.out]; omega)
          have htl : (ss.take a).length = a := by rw [List.length_take]; have := HN.out; omega
          have HTL := Lib.hid htl
          have HSN := Lib.hid hsn
          have hi1 : (a : Int) < (h : Int) := by omega
          have hm0 : 0 < m := by omega
          have hj1 : ¬ (0 : Int) = (m : Int) := by omega
          clear a1 b1 hsn htl
          rcases Nat.eq_zero_or_pos a with rfl | hpos
          · have hgr1 : g1 < wr.heap.size := Nat.lt_of_lt_of_le hg1 hbw.size
            have hgr2 : g2 < wr.heap.size := Nat.lt_of_lt_of_le hg2 hbw.size
            simp only [Nat.add_zero] at k1
            obtain rfl := hu0 rfl
            obtain ⟨X, hX⟩ : ∃ X, X = ss.getD 0 ⟨#[]⟩ := ⟨_, rfl⟩
            obtain ⟨Y, hY⟩ : ∃ Y, Y = ss.getD h ⟨#[]⟩ := ⟨_, rfl⟩
            have hsn := HSN.out
            rw [← hX] at k1 hless hsn
            rw [← hY] at k2 hless
            have HSX := Lib.hid hsn
            have hle : ∀ w, (binOp BinOp.leq 9 (.string X) (.string Y)).run Try.prog w = .ok (.bool true) w := fun w => by
              have e : (binOp BinOp.leq 9 (.string X) (.string Y)).run Try.prog w = .ok (.bool (Go.Op.bytesLess X.toList Y.toList || X.toList == Y.toList)) w := rfl
              rw [e, hless]
              rfl
            clear hsn hless hY HSN
            clear hX
            go_wp2_with fail
            refine wp_region_cls (by kernel_rfl) (by kernel_rfl) ?_
            repeat (
              refine wpQuiet_step (fun K hK => ?_)
              go_simp
              first
                | (refine hK _ ?_; clear hK K)
                | (refine ⟨_, fun _ _ => rfl, hK _ ?_⟩; clear hK K)
                | (apply Exists.intro
                   refine ⟨fun w' hw' => ?_, hK _ ?_⟩
                   · first
                       | (rw [hw'.cell hgr1 k1]; exact ⟨rfl, rfl⟩)
                       | (rw [hw'.cell hgr2 k2]; exact ⟨rfl, rfl⟩)
                       | (rw [hle]; exact ⟨rfl, rfl⟩)
                   clear hK K))
            refine wpQuiet_nil ?_
            intro w' hw'
            have hbw2 := nx hbw hw'
            have hsz2 := hbw2.size
            have hown2 := OwnS.keep hown hw'
            have k8 := (Below.cell (p := ⟨g1, q1, none⟩) hw' hgr1).trans k1
            clear k1 hgr1 hle
            clear k2 hgr2 hown hbw hw'
            unfold OwnS at hown2
            go_wp2_with (at_builtin; go_loud (refine wpList_append_own _ rfl _ _ 99 rfl w22.heap.size 9 i0 (.string ⟨#[]⟩) 1 16 Try.underlying99 hi hz0 hz1 hz2 rfl (by decide) _ _ _ rfl (hown2.alloc _) ⟨_, 0, none⟩ 1 1 [.string X] rfl rfl (new1 _ _ _) (one_str7 _) (by rw [HTL.out]; unfold maxLen; omega) (by rw [HTL.out]; omega) (by simp; omega) ?_); intro v' w9 hown' hgrow hnn)
            have hbw9 := below_app hbw2 hown2 (Nat.le_refl _) hgrow
            have hown1 : OwnS w22.heap.size w9 v' (ss.take (0 + 1)) := by rw [HSX.out]; exact OwnS.one5 hown'
            clear hown2 hown' hgrow hbw2 hnn
            go_wp2_with fail
            go_roundw
            case rel => exact ⟨0 + 1, 0, by omega, by omega, .inl rfl, by go_num, by go_num, hown1, hbw9, fun h => by omega⟩
            case measure => simp [intOf]; omega
          · have hgr1 : g1 < wr.heap.size := Nat.lt_of_lt_of_le hg1 hbw.size
            have hgr2 : g2 < wr.heap.size := Nat.lt_of_lt_of_le hg2 hbw.size
            clear hu0
            obtain ⟨X, hX⟩ : ∃ X, X = ss.getD a ⟨#[]⟩ := ⟨_, rfl⟩
            obtain ⟨Y, hY⟩ : ∃ Y, Y = ss.getD h ⟨#[]⟩ := ⟨_, rfl⟩
            have hsn := HSN.out
            rw [← hX] at k1 hless hsn
            rw [← hY] at k2 hless
            have HSX := Lib.hid hsn
            have hle : ∀ w, (binOp BinOp.leq 9 (.string X) (.string Y)).run Try.prog w = .ok (.bool true) w := fun w => by
              have e : (binOp BinOp.leq 9 (.string X) (.string Y)).run Try.prog w = .ok (.bool (Go.Op.bytesLess X.toList Y.toList || X.toList == Y.toList)) w := rfl
              rw [e, hless]
              rfl
            clear hsn hless hY HSN
            have hne := HI.out.ne (i := a - 1) (j := a) (by omega) (by rw [HN.out]; omega)
            rw [← hX] at hne
            have hnb := beq_false_of_ne hne
            clear hne
            have hps : (a - 1) < (ss.take a).length := by rw [HTL.out]; omega
            rcases hown.cells with ⟨_, h0⟩ | ⟨g5, cap5, rfl, hb5, hg5, q5, q6, hx5, hf5⟩
            · have := congrArg List.length h0; rw [HTL.out] at this; simp at this; omega
            have k5 := hx5 (a - 1) hps
            rw [take_getD (by omega) (by have := HN.out; omega)] at k5
            generalize ss.getD (a - 1) ⟨#[]⟩ = PP at *
            have ew : IntKind.i64.wrap ((a : Nat) - 1 : Int) = ((a - 1 : Nat) : Int) := by rw [IntKind.wrap_i64]; omega
            rw [HTL.out] at q5 hown ⊢
            unfold maxLen at q6
            clear hx5 hf5 hps
            clear hX
            go_wp2_with fail
            refine wp_region_cls (by kernel_rfl) (by kernel_rfl) ?_
            repeat (
              refine wpQuiet_step (fun K hK => ?_)
              go_simp
              first
                | (refine hK _ ?_; clear hK K)
                | (refine ⟨_, fun _ _ => rfl, hK _ ?_⟩; clear hK K)
                | (apply Exists.intro
                   refine ⟨fun w' hw' => ?_, hK _ ?_⟩
                   · first
                       | (rw [hw'.cell hgr1 k1]; exact ⟨rfl, rfl⟩)
                       | (rw [hw'.cell hgr2 k2]; exact ⟨rfl, rfl⟩)
                       | (rw [hle]; exact ⟨rfl, rfl⟩)
                   clear hK K))
            refine wpQuiet_nil ?_
            intro w' hw'
            have hbw2 := nx hbw hw'
            have hsz2 := hbw2.size
            have hown2 := OwnS.keep hown hw'
            have k8 := (Below.cell (p := ⟨g1, q1 + a, none⟩) hw' hgr1).trans k1
            clear k1 hgr1 hle
            have k9 := (Below.cell (p := ⟨g5, a - 1, none⟩) hw' hg5).trans k5
            clear k5
            clear k2 hgr2 hown hbw hw'
            unfold OwnS at hown2
            go_wp2_with (at_builtin; go_loud (refine wpList_append_own _ rfl _ _ 99 rfl w22.heap.size 9 i0 (.string ⟨#[]⟩) 1 16 Try.underlying99 hi hz0 hz1 hz2 rfl (by decide) _ _ _ rfl (hown2.alloc _) ⟨_, 0, none⟩ 1 1 [.string X] rfl rfl (new1 _ _ _) (one_str7 _) (by rw [HTL.out]; unfold maxLen; omega) (by rw [HTL.out]; omega) (by simp; omega) ?_); intro v' w9 hown' hgrow hnn)
            have hbw9 := below_app hbw2 hown2 (Nat.le_refl _) hgrow
            have hown1 : OwnS w22.heap.size w9 v' (ss.take (a + 1)) := by rw [HSX.out]; exact OwnS.one5 hown'
            clear hown2 hown' hgrow hbw2 hnn
            go_wp2_with fail
            go_roundw
            case rel => exact ⟨a + 1, 0, by omega, by omega, .inl rfl, by go_num, by go_num, hown1, hbw9, fun h => by omega⟩
            case measure => simp [intOf]; omega

        · obtain rfl : a = h := by omega
          by_cases hlt2 : b < m
          · obtain ⟨g2, q2, rfl, _, hg2, b1⟩ := HB.out b (by rw [← HM.out]; exact hlt2)
            have k2 := (hbw.cell (p := ⟨g2, q2 + b, none⟩) hg2).trans b1
            rw [drop_getD] at k2
            obtain ⟨T, hT⟩ : ∃ T, T = a + b := ⟨_, rfl⟩
            rw [← hT] at hown k2
            have hTn : T < n := by omega
            have hT0 : 0 < T := by omega
            have HT := Lib.hid hT
            have hsn := take_snocS (ss := ss) (k := T) (by rw [HN.out]; omega)
            have htl : (ss.take T).length = T := by rw [List.length_take]; have := HN.out; omega
            have HTL := Lib.hid htl
            have HSN := Lib.hid hsn
            have hj1 : ¬ (b : Int) = (m : Int) := by omega
            have hj2 : (b : Int) < (m : Int) := by omega
            clear b1 hsn htl hT
            clear hu0
            have hgr2 : g2 < wr.heap.size := Nat.lt_of_lt_of_le hg2 hbw.size
            obtain ⟨X, hX⟩ : ∃ X, X = ss.getD T ⟨#[]⟩ := ⟨_, rfl⟩
            have hsn := HSN.out
            rw [← hX] at k2 hsn
            have HSX := Lib.hid hsn
            clear hsn HSN
            have hne := HI.out.ne (i := T - 1) (j := T) (by omega) (by rw [HN.out]; omega)
            rw [← hX] at hne
            have hnb := beq_false_of_ne hne
            clear hne
            have hps : (T - 1) < (ss.take T).length := by rw [HTL.out]; omega
            rcases hown.cells with ⟨_, h0⟩ | ⟨g5, cap5, rfl, hb5, hg5, q5, q6, hx5, hf5⟩
            · have := congrArg List.length h0; rw [HTL.out] at this; simp at this; omega
            have k5 := hx5 (T - 1) hps
            rw [take_getD (by omega) (by have := HN.out; omega)] at k5
            generalize ss.getD (T - 1) ⟨#[]⟩ = PP at *
            have ew : IntKind.i64.wrap ((T : Nat) - 1 : Int) = ((T - 1 : Nat) : Int) := by rw [IntKind.wrap_i64]; omega
            rw [HTL.out] at q5 hown ⊢
            unfold maxLen at q6
            clear hx5 hf5 hps
            clear hX
            go_wp2_with fail
            have hd1 : ((b : Int) == (m : Int)) = false := beq_false_of_ne hj1
            have hd2 : decide ((a : Int) < (a : Int)) = false := decide_eq_false (by omega)
            go_quiet (fail)
            have hw' : Below wr.heap.size wr (wr.drewN nq) := drewB (Below.refl _ _) nq
            generalize wr.drewN nq = w' at *
            have hbw2 := nx hbw hw'
            have hsz2 := hbw2.size
            have hown2 := OwnS.keep hown hw'
            have k8 := (Below.cell (p := ⟨g2, q2 + b, none⟩) hw' hgr2).trans k2
            have k9 := (Below.cell (p := ⟨g5, T - 1, none⟩) hw' hg5).trans k5
            clear k5
            clear k2 hgr2 hown hbw hw'
            unfold OwnS at hown2
            go_wp2_with (at_builtin; go_loud (refine wpList_append_own _ rfl _ _ 99 rfl w22.heap.size 9 i0 (.string ⟨#[]⟩) 1 16 Try.underlying99 hi hz0 hz1 hz2 rfl (by decide) _ _ _ rfl (hown2.alloc _) ⟨_, 0, none⟩ 1 1 [.string X] rfl rfl (new1 _ _ _) (one_str7 _) (by rw [HTL.out]; unfold maxLen; omega) (by rw [HTL.out]; omega) (by simp; omega) ?_); intro v' w9 hown' hgrow hnn)
            have hbw9 := below_app hbw2 hown2 (Nat.le_refl _) hgrow
            have hown1 : OwnS w22.heap.size w9 v' (ss.take (T + 1)) := by rw [HSX.out]; exact OwnS.one5 hown'
            clear hown2 hown' hgrow hbw2 hnn
            go_wp2_with fail
            go_roundw
            case rel => exact ⟨a, b + 1, by omega, by omega, .inr rfl, by go_num, by go_num, (by rw [show a + (b + 1) = T + 1 by have := HT.out; omega]; exact hown1), hbw9, fun h => by omega⟩
            case measure => simp [intOf]; omega

          · obtain rfl : b = m := by omega
            have hfin : ReadS base wr u5 ss := by
              have h9 := hown
              rw [hm1, List.take_of_length_le (by rw [HN.out]; exact Nat.le_refl _)] at h9
              exact h9.cells.read.mono (Nat.le_trans hbs hb22'.size)
            have HF := Lib.hid hfin
            have hbwz := nx (Below.refl _ _) hb22'
            have hfb := nx hbwz hbw
            clear hown hfin
            go_wp2_with fail
            go_ret
            exact ⟨_, HF.out, hfb, rfl⟩
end Go.Proofs.Ytkpganpojdboeaa

/-! ParseC -/
namespace Go.Proofs.Ytkpganpojdboeaa
open Go.RowKit

/-- The pair of what lies ahead of the first byte 62 and behind it. -/
def cutP (s : ByteArray) : Option Pr := if 0 ≤ idxB s 62 then pairOf (s.extract 0 (idxB s 62).toNat) (s.extract ((idxB s 62).toNat + 1) s.size) else none

theorem pcs_skip (s : ByteArray) (f a : Nat) : ∀ (n i : Nat), (∀ j, i ≤ j → j < i + n → s.data.toList[j]? ≠ some 62) → pcs s (n + f) a i = pcs s f a (i + n) := by
  intro n
  induction n with
  | zero => intro i _; rw [Nat.zero_add]; rfl
  | succ n ih =>
    intro i h
    rw [show n + 1 + f = (n + f) + 1 by omega, pcs, if_neg (h i (by omega) (by omega)), ih (i + 1) (fun j h1 h2 => h j (by omega) (by omega)), show i + 1 + n = i + (n + 1) by omega]
theorem pcs_pos (s : ByteArray) : ∀ (f a i : Nat), 0 < (pcs s f a i).length := by
  intro f
  induction f with
  | zero => intro a i; simp [pcs]
  | succ f ih => intro a i; rw [pcs]; split
                 · simp
                 · exact ih _ _
theorem pcs_two (s : ByteArray) : ∀ (f a i j : Nat), i ≤ j → j < i + f → s.data.toList[j]? = some 62 → 2 ≤ (pcs s f a i).length := by
  intro f
  induction f with
  | zero => intro a i j h1 h2; omega
  | succ f ih =>
    intro a i j h1 h2 h3
    rw [pcs]
    split
    · have := pcs_pos s f (i + 1) (i + 1)
      simp; omega
    · next h =>
      have : i ≠ j := fun e => h (e ▸ h3)
      exact ih _ _ j (by omega) (by omega) h3

theorem text_no62 (t : Tr) : (62 : UInt8) ∉ t.text := by
  induction t with
  | lf => simp [Tr.text]
  | nd l r hl hr => simp [Tr.text, hl, hr]

theorem pcs_one {s : ByteArray} (h : ∀ j : Nat, s.data.toList[j]? ≠ some 62) : pcs s s.size 0 0 = [s] := by
  have := pcs_skip s 0 0 s.size 0 (fun j _ _ => h j)
  rw [Nat.add_zero, Nat.zero_add] at this
  rw [this, pcs, ByteArray.extract_zero_size]

theorem cutP_none {s : ByteArray} (h : 200 < s.size ∨ (pcs s s.size 0 0).length ≠ 2) : cutP s = none := by
  unfold cutP
  rcases idxB_spec s 62 with ⟨h1, _⟩ | ⟨k, h1, h2, h3, h4⟩
  · rw [h1, if_neg (by decide)]
  · rw [h1, if_pos (by omega), show ((k : Int)).toNat = k by omega]
    cases hp : pairOf (s.extract 0 k) (s.extract (k + 1) s.size) with
    | none => rfl
    | some p =>
      exfalso
      obtain ⟨e1, e2, _, c1, c2⟩ := pairOf_some hp
      have s1 := p.1.str_size
      have s2 := p.2.str_size
      rw [← e1] at s1
      rw [← e2] at s2
      rw [ByteArray.size_extract] at s1 s2
      have hz : ¬ 200 < s.size := by omega
      refine (h.resolve_left hz) ?_
      have e0 := pcs_skip s (s.size - k) 0 k 0 (fun j _ hj => h4 j (by omega))
      rw [show k + (s.size - k) = s.size by omega, Nat.zero_add, show s.size - k = (s.size - (k + 1)) + 1 by omega, pcs, if_pos h3] at e0
      have e3 := pcs_skip s 0 (k + 1) (s.size - (k + 1)) (k + 1) (by
        intro j h5 h6 h7
        have h8 : (s.data.toList.drop (k + 1))[j - (k + 1)]? = some 62 := by
          rw [List.getElem?_drop, show k + 1 + (j - (k + 1)) = j by omega]; exact h7
        rw [← ext_end, e2, Tr.str_list] at h8
        exact text_no62 _ (List.mem_of_getElem? h8))
      rw [Nat.add_zero] at e3
      rw [e0, e3, pcs]
      rfl

theorem cutP_two {s : ByteArray} (h : (pcs s s.size 0 0).length = 2) : ∃ a b, pcs s s.size 0 0 = [a, b] ∧ cutP s = pairOf a b ∧ a.size ≤ s.size ∧ b.size ≤ s.size := by
  unfold cutP
  rcases idxB_spec s 62 with ⟨h1, h2⟩ | ⟨k, h1, h2, h3, h4⟩
  · rw [pcs_one h2] at h; simp at h
  · rw [h1, if_pos (by omega), show ((k : Int)).toNat = k by omega]
    have e0 := pcs_skip s (s.size - k) 0 k 0 (fun j _ hj => h4 j (by omega))
    rw [show k + (s.size - k) = s.size by omega, Nat.zero_add, show s.size - k = (s.size - (k + 1)) + 1 by omega, pcs, if_pos h3] at e0
    have hno : ∀ j, k + 1 ≤ j → j < s.size → s.data.toList[j]? ≠ some 62 := by
      intro j h5 h6 h7
      have := pcs_two s (s.size - (k + 1)) (k + 1) (k + 1) j h5 (by omega) h7
      rw [e0] at h
      simp at h
      omega
    have e3 := pcs_skip s 0 (k + 1) (s.size - (k + 1)) (k + 1) (fun j h5 h6 => hno j h5 (by omega))
    rw [Nat.add_zero] at e3
    refine ⟨_, _, by rw [e0, e3, pcs], rfl, ?_, ?_⟩
    · rw [ByteArray.size_extract]; omega
    · rw [ByteArray.size_extract]; omega


set_option maxHeartbeats 1000000 in
theorem prIfA_any (a b : ByteArray) (w : World) (ha : a.size ≤ 9223372036854775806) (hb : b.size ≤ 9223372036854775806) :
    Calls Try.prog 44 #[.agg #[.string a, .string b]] w (Gives (ansPr (pairOf a b)) w) := by
  have hg := fun w => prGood_any a b w ha hb
  cases h : pairOf a b with
  | none =>
    rw [h] at hg
    clear h
    show Calls _ _ _ _ (Gives (ansPr none) w)
    go_enter Try.func44, Try.ntmps44
    go_wp2_with fail
    have hb0 : Below w.heap.size w ((w.alloc (.cells #[.string a, .string b] 25 (0, 0))).alloc (.cells #[.string ⟨#[]⟩, .string ⟨#[]⟩] 25 (0, 0))) := nxAlloc (nxAlloc (Below.refl _ _) _) _
    have hx0 := heap_keep (nxAlloc (Below.refl _ _) (.cells #[.string ⟨#[]⟩, .string ⟨#[]⟩] 25 (0, 0))) (heap_alloc_at w (.cells #[.string a, .string b] 25 (0, 0)))
    have hx1 := heap_alloc_at (w.alloc (.cells #[.string a, .string b] 25 (0, 0))) (.cells #[.string ⟨#[]⟩, .string ⟨#[]⟩] 25 (0, 0))
    generalize ((w.alloc (.cells #[.string a, .string b] 25 (0, 0))).alloc (.cells #[.string ⟨#[]⟩, .string ⟨#[]⟩] 25 (0, 0))) = w0 at *
    have e1 : (w.alloc (.cells #[.string a, .string b] 25 (0, 0))).heap.size = w.heap.size + 1 := by simp
    rw [e1] at hx1
    clear e1
    obtain ⟨hx0a, hx0b, hx0c⟩ := two_facts hx0
    obtain ⟨hx0f, hx0g⟩ := two_frozen hx0
    obtain ⟨hx1a, hx1b, hx1c⟩ := two_facts hx1
    obtain ⟨hx1f, hx1g⟩ := two_frozen hx1
    refine (hg _).mono ?_; rintro e w1 ⟨rfl, hb1⟩
    have hbw1 := nx hb0 hb1
    replace hx0 := heap_keep hb1 hx0
    replace hx1 := heap_keep hb1 hx1
    clear hx0a hx0b hx0c hx0f hx0g
    obtain ⟨hx0a, hx0b, hx0c⟩ := two_facts hx0
    obtain ⟨hx0f, hx0g⟩ := two_frozen hx0
    clear hx1a hx1b hx1c hx1f hx1g
    obtain ⟨hx1a, hx1b, hx1c⟩ := two_facts hx1
    obtain ⟨hx1f, hx1g⟩ := two_frozen hx1
    clear hb1 hb0
    go_wp2_with fail
    obtain ⟨q1, q2⟩ := two_cells (set_two (.string ⟨#[]⟩) (.string ⟨#[]⟩) hx1)
    refine bodyPost_ret (v := .tuple #[.agg #[.string ⟨#[]⟩, .string ⟨#[]⟩], .bool false]) (by simp [q1, q2, results, Try.results44, go_sem]) rfl ⟨rfl, ?_⟩
    exact (hbw1.setCell (by show w.heap.size ≤ w.heap.size + 1; omega) _).setCell (by show w.heap.size ≤ w.heap.size + 1; omega) _
  | some p =>
    rw [h] at hg
    obtain ⟨rfl, rfl, hok, hc1, hc2⟩ := pairOf_some h
    clear h
    show Calls _ _ _ _ (Gives (ansPr (some p)) w)
    go_enter Try.func44, Try.ntmps44
    go_wp2_with fail
    have hb0 : Below w.heap.size w ((w.alloc (.cells #[.string p.1.str, .string p.2.str] 25 (0, 0))).alloc (.cells #[.string ⟨#[]⟩, .string ⟨#[]⟩] 25 (0, 0))) := nxAlloc (nxAlloc (Below.refl _ _) _) _
    have hx0 := heap_keep (nxAlloc (Below.refl _ _) (.cells #[.string ⟨#[]⟩, .string ⟨#[]⟩] 25 (0, 0))) (heap_alloc_at w (.cells #[.string p.1.str, .string p.2.str] 25 (0, 0)))
    have hx1 := heap_alloc_at (w.alloc (.cells #[.string p.1.str, .string p.2.str] 25 (0, 0))) (.cells #[.string ⟨#[]⟩, .string ⟨#[]⟩] 25 (0, 0))
    generalize ((w.alloc (.cells #[.string p.1.str, .string p.2.str] 25 (0, 0))).alloc (.cells #[.string ⟨#[]⟩, .string ⟨#[]⟩] 25 (0, 0))) = w0 at *
    have e1 : (w.alloc (.cells #[.string p.1.str, .string p.2.str] 25 (0, 0))).heap.size = w.heap.size + 1 := by simp
    rw [e1] at hx1
    clear e1
    obtain ⟨hx0a, hx0b, hx0c⟩ := two_facts hx0
    obtain ⟨hx0f, hx0g⟩ := two_frozen hx0
    obtain ⟨hx1a, hx1b, hx1c⟩ := two_facts hx1
    obtain ⟨hx1f, hx1g⟩ := two_frozen hx1
    refine (hg _).mono ?_; rintro e w1 ⟨rfl, hb1⟩
    have hbw1 := nx hb0 hb1
    replace hx0 := heap_keep hb1 hx0
    replace hx1 := heap_keep hb1 hx1
    clear hx0a hx0b hx0c hx0f hx0g
    obtain ⟨hx0a, hx0b, hx0c⟩ := two_facts hx0
    obtain ⟨hx0f, hx0g⟩ := two_frozen hx0
    clear hx1a hx1b hx1c hx1f hx1g
    obtain ⟨hx1a, hx1b, hx1c⟩ := two_facts hx1
    obtain ⟨hx1f, hx1g⟩ := two_frozen hx1
    clear hb1 hb0
    go_wp2_with fail
    obtain ⟨q1, q2⟩ := two_cells (set_two (.string p.1.str) (.string p.2.str) hx1)
    refine bodyPost_ret (v := .tuple #[.agg #[.string p.1.str, .string p.2.str], .bool true]) (by simp [q1, q2, results, Try.results44, go_sem]) rfl ⟨rfl, ?_⟩
    exact (hbw1.setCell (by show w.heap.size ≤ w.heap.size + 1; omega) _).setCell (by show w.heap.size ≤ w.heap.size + 1; omega) _

set_option maxRecDepth 100000 in
set_option maxHeartbeats 2000000 in
theorem prParse_any (s : ByteArray) (w : World) (hs : s.size ≤ 2000000) :
    Calls Try.prog 99 #[.string s] w (Gives (ansPr (cutP s)) w) := by
  have S := fun w => split_any s w hs
  have hp := pcs_pos s s.size 0 0
  by_cases h2 : s.size ≤ 200 ∧ (pcs s s.size 0 0).length = 2
  · obtain ⟨h1, h2⟩ := h2
    obtain ⟨a, b, e1, e2, z1, z2⟩ := cutP_two h2
    have L := fun w => prIfA_any a b w (by omega) (by omega)
    rw [e2]
    rw [e1] at S
    clear h2 hp e1 e2 z1 z2
    generalize pairOf a b = o at *
    unfold ansPr at *
    generalize pS1 o = x1 at *
    generalize pS2 o = x2 at *
    generalize o.isSome = ok at *
    go_enter Try.func99, Try.ntmps99
    go_wp2_with fail
    have hb0 : Below w.heap.size w (w.alloc (.cells #[.string ⟨#[]⟩, .string ⟨#[]⟩] 25 (0, 0))) := nxAlloc (Below.refl _ _) _
    have hx0 := heap_alloc_at w (.cells #[.string ⟨#[]⟩, .string ⟨#[]⟩] 25 (0, 0))
    generalize (w.alloc (.cells #[.string ⟨#[]⟩, .string ⟨#[]⟩] 25 (0, 0))) = w0 at *
    obtain ⟨hx0a, hx0b, hx0c⟩ := two_facts hx0
    obtain ⟨hx0f, hx0g⟩ := two_frozen hx0
    refine (S _).mono ?_; rintro e w1 ⟨v, hown, hb1, rfl⟩
    have hbw1 := nx hb0 hb1
    replace hx0 := heap_keep hb1 hx0
    clear hx0a hx0b hx0c hx0f hx0g
    obtain ⟨hx0a, hx0b, hx0c⟩ := two_facts hx0
    obtain ⟨hx0f, hx0g⟩ := two_frozen hx0
    obtain ⟨g, cap, rfl⟩ := hown.shape (by simp)
    have hc := hown.cells
    clear hb1 hb0 hown S
    rcases hc with ⟨h3, _⟩ | ⟨g', cap', h3, hg1, hg2, hg3, hg4, hcell, hfr⟩
    · cases h3
    cases h3
    have k0 := hcell 0 (by simp)
    have k1 := hcell 1 (by simp)
    simp only [List.length_cons, List.length_nil, List.getD_cons_zero, List.getD_cons_succ] at *
    clear hcell hg3 hg4 hfr
    go_wp2_with fail
    refine wp_region_clsT 10 (by kernel_rfl) (by kernel_rfl) ?_
    simp only [List.take_succ_cons, List.take_zero, List.drop_succ_cons, List.drop_zero]
    repeat (
      refine wpQuiet_step (fun K hK => ?_)
      go_simp
      first
        | (refine hK _ ?_; clear hK K)
        | (refine ⟨_, fun _ _ => rfl, hK _ ?_⟩; clear hK K)
        | (apply Exists.intro
           refine ⟨fun w' hw' => ?_, hK _ ?_⟩
           · first
               | (rw [hw'.cell hg2 k0]; exact ⟨rfl, rfl⟩)
               | (rw [hw'.cell hg2 k1]; exact ⟨rfl, rfl⟩)
               | (go_at_call 44; exact hw'.call (L _))
           clear hK K))
    refine wpQuiet_nil ?_
    intro w' hw'
    have hbwf := nx hbw1 hw'
    replace hx0 := heap_keep hw' hx0
    clear hw' hbw1
    clear hx0a hx0b hx0c hx0f hx0g
    obtain ⟨hx0a, hx0b, hx0c⟩ := two_facts hx0
    obtain ⟨hx0f, hx0g⟩ := two_frozen hx0
    go_wp2_with fail
    obtain ⟨q1, q2⟩ := two_cells (set_two (.string x1) (.string x2) hx0)
    refine bodyPost_ret (v := .tuple #[.agg #[.string x1, .string x2], .bool ok]) (by simp [q1, q2, results, Try.results99, go_sem]) rfl ⟨rfl, ?_⟩
    exact (hbwf.setCell (by show w.heap.size ≤ w.heap.size; omega) _).setCell (by show w.heap.size ≤ w.heap.size; omega) _
  · rw [cutP_none (by omega)]
    show Calls _ _ _ _ (Gives (ansPr none) w)
    generalize hl : pcs s s.size 0 0 = ps at *
    clear hl
    go_enter Try.func99, Try.ntmps99
    go_wp2_with fail
    have hb0 : Below w.heap.size w (w.alloc (.cells #[.string ⟨#[]⟩, .string ⟨#[]⟩] 25 (0, 0))) := nxAlloc (Below.refl _ _) _
    have hx0 := heap_alloc_at w (.cells #[.string ⟨#[]⟩, .string ⟨#[]⟩] 25 (0, 0))
    generalize (w.alloc (.cells #[.string ⟨#[]⟩, .string ⟨#[]⟩] 25 (0, 0))) = w0 at *
    obtain ⟨hx0a, hx0b, hx0c⟩ := two_facts hx0
    obtain ⟨hx0f, hx0g⟩ := two_frozen hx0
    refine (S _).mono ?_; rintro e w1 ⟨v, hown, hb1, rfl⟩
    have hbw1 := nx hb0 hb1
    replace hx0 := heap_keep hb1 hx0
    clear hx0a hx0b hx0c hx0f hx0g
    obtain ⟨hx0a, hx0b, hx0c⟩ := two_facts hx0
    obtain ⟨hx0f, hx0g⟩ := two_frozen hx0
    obtain ⟨g, cap, rfl⟩ := hown.shape hp
    clear hb1 hb0 hown S hp
    generalize ps.length = n at *
    have hq : (200 < s.size) ∨ ¬ n = 2 := by omega
    clear h2
    cases hz : decide (200 < s.size) with
    | true =>
      have hz' : (200 < s.size) := by simpa using hz
      clear hq hz
      go_wp2_with fail
      obtain ⟨q1, q2⟩ := two_cells (set_two (.string ⟨#[]⟩) (.string ⟨#[]⟩) hx0)
      refine bodyPost_ret (v := .tuple #[.agg #[.string ⟨#[]⟩, .string ⟨#[]⟩], .bool false]) (by simp [q1, q2, results, Try.results99, go_sem]) rfl ⟨rfl, ?_⟩
      exact (hbw1.setCell (by show w.heap.size ≤ w.heap.size; omega) _).setCell (by show w.heap.size ≤ w.heap.size; omega) _
    | false =>
      have hz' : ¬ (200 < s.size) := by simpa using hz
      have hn : ((n : Int) != 2) = true := by have := hq.resolve_left hz'; rw [bne_iff_ne]; omega
      clear hq hz
      go_wp2_with fail
      obtain ⟨q1, q2⟩ := two_cells (set_two (.string ⟨#[]⟩) (.string ⟨#[]⟩) hx0)
      refine bodyPost_ret (v := .tuple #[.agg #[.string ⟨#[]⟩, .string ⟨#[]⟩], .bool false]) (by simp [q1, q2, results, Try.results99, go_sem]) rfl ⟨rfl, ?_⟩
      exact (hbw1.setCell (by show w.heap.size ≤ w.heap.size; omega) _).setCell (by show w.heap.size ≤ w.heap.size; omega) _

end Go.Proofs.Ytkpganpojdboeaa
