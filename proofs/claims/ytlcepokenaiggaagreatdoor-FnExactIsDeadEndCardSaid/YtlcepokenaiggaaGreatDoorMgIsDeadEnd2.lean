/- Texts that the claim needs, part 3. -/
import Derived.Test.YtlcepokenaiggaaGreatDoorMgIsDeadEnd1
import Derived.Maps.AppendAt
import Derived.Laws.AppendOwnNone
import Derived.Deep.AppendLies
import Derived.Deep.RegionHeld3
/-! Times -/
namespace Go.Proofs.YtlcepokenaiggaaGreatDoor
open Go.RowKit

theorem keep_cell {w w' : World} {b o : Nat} {v : Value} (hb : Below w.heap.size w w') (h : w.cell? ⟨b, o, none⟩ = some v) : w'.cell? ⟨b, o, none⟩ = some v :=
  (hb.cell (p := ⟨b, o, none⟩) (World.block_lt_of_cell? _ _ h)).trans h

theorem treeOf_any (t : Tr) (w : World) (h : t.carets ≤ 1000) : Calls Tryz.prog 73 #[.string t.str] w (GivesNode t w) := by
  have hz := t.str_size
  have hp := place_any (t.str.size + 1) t.str
  rw [parse_str t _ (by have := t.text_len; omega)] at hp
  have hp' : ∀ w, Calls Tryz.prog 99 #[.string t.str] w (PlaceOk t [] t.str w) := fun w => hp w (by omega) (by omega)
  clear hz hp
  go_enter Tryz.func73, Tryz.ntmps73
  go_wp2_with fail
  refine (hp' _).mono ?_; rintro e w1 ⟨b1, s1, hs1, hz1, hn1, hb1, rfl⟩
  clear hs1 hz1
  go_wp2_with fail
  go_ret
  exact ⟨b1, hn1, hb1, rfl⟩

/-- What is asked of the factors of a product, and what its parts are. -/
theorem raw_len {p q : Pr} (hp : okP p) (hq : okP q) : (subsS p.2 (p.2.join q.1)).length = p.1.leaves ∧ (subsS q.1 (p.2.join q.1)).length = q.2.leaves := by
  have h1 := subsS_length p.2 _ (part_join p.2 q.1)
  have h2 := subsS_length q.1 _ (part_join' p.2 q.1)
  unfold okP Tr.leaves at *
  omega
theorem raw_fill1 {p q : Pr} (hp : okP p) (hq : okP q) : fillB p.1.str (subsS p.2 (p.2.join q.1)) = (rawP p q).1.str :=
  fillB_tr p.1 _ (by have := (raw_len hp hq).1; unfold subsS at this; simpa using this)
theorem raw_fill2 {p q : Pr} (hp : okP p) (hq : okP q) : fillB q.2.str (subsS q.1 (p.2.join q.1)) = (rawP p q).2.str :=
  fillB_tr q.2 _ (by have := (raw_len hp hq).2; unfold subsS at this; simpa using this)
theorem fillL_of {s : ByteArray} {us : List ByteArray} {t : Tr} (h : fillB s us = t.str) : fillL s.data.toList us = t.text := by
  have := congrArg (fun b : ByteArray => b.data.toList) h
  simpa [fillB, Tr.str] using this
theorem text_ne (t : Tr) : t.text ≠ [] := by cases t <;> simp [Tr.text]

theorem prFill_raw1 {p q : Pr} (hp : okP p) (hq : okP q) (h1 : p.1.carets ≤ 30) (h2 : q.1.carets ≤ 30) (b1 : Nat) (v : Value) (w : World) (hv : CellsS b1 w v (subsS p.2 (p.2.join q.1))) :
    Calls Tryz.prog 58 #[.string p.1.str, v] w (Gives (.string (rawP p q).1.str) w) := by
  have hl := raw_len hp hq
  have hr := rawP_carets hp hq
  have hj := join_carets p.2 q.1
  have ht := (rawP p q).1.text_len
  unfold okP at hp hq
  have hz := p.1.str_size
  unfold Tr.leaves at hl
  have := prFill_any b1 p.1.str v _ w (by omega) hv (by rw [Tr.str_list, text_dots]; omega) (by omega) (by rw [fillL_of (raw_fill1 hp hq)]; omega)
  rwa [raw_fill1 hp hq] at this

theorem prFill_raw2 {p q : Pr} (hp : okP p) (hq : okP q) (h1 : p.1.carets ≤ 30) (h2 : q.1.carets ≤ 30) (b1 : Nat) (v : Value) (w : World) (hv : CellsS b1 w v (subsS q.1 (p.2.join q.1))) :
    Calls Tryz.prog 58 #[.string q.2.str, v] w (Gives (.string (rawP p q).2.str) w) := by
  have hl := raw_len hp hq
  have hr := rawP_carets hp hq
  have hj := join_carets p.2 q.1
  have ht := (rawP p q).2.text_len
  unfold okP at hp hq
  have hz := q.2.str_size
  unfold Tr.leaves at hl
  have := prFill_any b1 q.2.str v _ w (by omega) hv (by rw [Tr.str_list, text_dots]; omega) (by omega) (by rw [fillL_of (raw_fill2 hp hq)]; omega)
  rwa [raw_fill2 hp hq] at this

theorem withLeaves_raw1 {p q : Pr} (hp : okP p) (hq : okP q) (h1 : p.1.carets ≤ 30) (h2 : q.1.carets ≤ 30) (b1 : Nat) (v : Value) (w : World) (hv : CellsS b1 w v (subsS p.2 (p.2.join q.1))) :
    Calls Tryz.prog 81 #[.string p.1.str, v] w (Gives (.string (rawP p q).1.str) w) := by
  have hl := raw_len hp hq
  have hr := rawP_carets hp hq
  have hj := join_carets p.2 q.1
  have ht := (rawP p q).1.text_len
  unfold okP at hp hq
  have hz := p.1.str_size
  unfold Tr.leaves at hl
  have := withLeaves_any b1 p.1.str v _ w (by omega) hv (by rw [Tr.str_list, text_dots]; omega) (by omega) (by rw [fillL_of (raw_fill1 hp hq)]; omega) (by rw [fillL_of (raw_fill1 hp hq)]; exact text_ne _)
  rwa [raw_fill1 hp hq] at this

theorem withLeaves_raw2 {p q : Pr} (hp : okP p) (hq : okP q) (h1 : p.1.carets ≤ 30) (h2 : q.1.carets ≤ 30) (b1 : Nat) (v : Value) (w : World) (hv : CellsS b1 w v (subsS q.1 (p.2.join q.1))) :
    Calls Tryz.prog 81 #[.string q.2.str, v] w (Gives (.string (rawP p q).2.str) w) := by
  have hl := raw_len hp hq
  have hr := rawP_carets hp hq
  have hj := join_carets p.2 q.1
  have ht := (rawP p q).2.text_len
  unfold okP at hp hq
  have hz := q.2.str_size
  unfold Tr.leaves at hl
  have := withLeaves_any b1 q.2.str v _ w (by omega) hv (by rw [Tr.str_list, text_dots]; omega) (by omega) (by rw [fillL_of (raw_fill2 hp hq)]; omega) (by rw [fillL_of (raw_fill2 hp hq)]; exact text_ne _)
  rwa [raw_fill2 hp hq] at this

set_option maxRecDepth 100000 in
set_option maxHeartbeats 4000000 in
theorem product_any (p q : Pr) (w : World) (hp : okP p) (hq : okP q) (h1 : p.1.carets ≤ 30) (h2 : q.1.carets ≤ 30) :
    Calls Tryz.prog 52 #[.agg #[.string p.1.str, .string p.2.str], .agg #[.string q.1.str, .string q.2.str]] w (Gives (.agg #[.string (mulP p q).1.str, .string (mulP p q).2.str]) w) := by
  have hr := rawP_carets hp hq
  have hj := join_carets p.2 q.1
  have hp' : p.1.carets = p.2.carets := hp
  have hq' : q.1.carets = q.2.carets := hq
  have T1 := fun w => treeOf_any p.2 w (by omega)
  have T2 := fun w => treeOf_any q.1 w (by omega)
  have W1 := fun b v w h => withLeaves_raw1 hp hq h1 h2 b v w h
  have W2 := fun b v w h => withLeaves_raw2 hp hq h1 h2 b v w h
  have RR : ∀ w, Calls Tryz.prog 41 #[.agg #[.string (rawP p q).1.str, .string (rawP p q).2.str], .func (Fn.func 42) #[] #[]] w (Gives (.agg #[.string (mulP p q).1.str, .string (mulP p q).2.str]) w) := fun w => reducedBy_first (rawP p q) w (by omega) (by omega)
  have PJ1 := part_join p.2 q.1
  have PJ2 := part_join' p.2 q.1
  have hjc : (p.2.join q.1).carets ≤ 60 := by omega
  clear hr hj
  go_enter Tryz.func52, Tryz.ntmps52
  go_wp2_with fail
  have hb0 : Below w.heap.size w (((w.alloc (.cells #[.string p.1.str, .string p.2.str] 28 (0, 0))).alloc (.cells #[.string q.1.str, .string q.2.str] 28 (0, 0))).alloc (.cells #[.string ⟨#[]⟩, .string ⟨#[]⟩] 28 (0, 0))) := nxAlloc (nxAlloc (nxAlloc (Below.refl _ _) _) _) _
  have hx0 := heap_keep (nxAlloc (Below.refl _ _) (.cells #[.string ⟨#[]⟩, .string ⟨#[]⟩] 28 (0, 0))) (heap_keep (nxAlloc (Below.refl _ _) (.cells #[.string q.1.str, .string q.2.str] 28 (0, 0))) (heap_alloc_at w (.cells #[.string p.1.str, .string p.2.str] 28 (0, 0))))
  have hx1 := heap_keep (nxAlloc (Below.refl _ _) (.cells #[.string ⟨#[]⟩, .string ⟨#[]⟩] 28 (0, 0))) (heap_alloc_at (w.alloc (.cells #[.string p.1.str, .string p.2.str] 28 (0, 0))) (.cells #[.string q.1.str, .string q.2.str] 28 (0, 0)))
  have hx2 := heap_alloc_at ((w.alloc (.cells #[.string p.1.str, .string p.2.str] 28 (0, 0))).alloc (.cells #[.string q.1.str, .string q.2.str] 28 (0, 0))) (.cells #[.string ⟨#[]⟩, .string ⟨#[]⟩] 28 (0, 0))
  generalize (((w.alloc (.cells #[.string p.1.str, .string p.2.str] 28 (0, 0))).alloc (.cells #[.string q.1.str, .string q.2.str] 28 (0, 0))).alloc (.cells #[.string ⟨#[]⟩, .string ⟨#[]⟩] 28 (0, 0))) = w0 at *
  have e1 : (w.alloc (.cells #[.string p.1.str, .string p.2.str] 28 (0, 0))).heap.size = w.heap.size + 1 := by simp
  rw [e1] at hx1
  clear e1
  have e2 : ((w.alloc (.cells #[.string p.1.str, .string p.2.str] 28 (0, 0))).alloc (.cells #[.string q.1.str, .string q.2.str] 28 (0, 0))).heap.size = w.heap.size + 1 + 1 := by simp
  rw [e2] at hx2
  clear e2
  obtain ⟨hx0a, hx0b, hx0c⟩ := two_facts hx0
  obtain ⟨hx0f, hx0g⟩ := two_frozen hx0
  obtain ⟨hx1a, hx1b, hx1c⟩ := two_facts hx1
  obtain ⟨hx1f, hx1g⟩ := two_frozen hx1
  obtain ⟨hx2a, hx2b, hx2c⟩ := two_facts hx2
  obtain ⟨hx2f, hx2g⟩ := two_frozen hx2
  have hz0 := Below.refl w0.heap.size w0
  go_region_held3 (fun w' => w'.cell? ⟨w.heap.size, 1, none⟩ = some (.string p.2.str) ∧ w'.cell? ⟨w.heap.size + 1, 0, none⟩ = some (.string q.1.str))
    (first
      | exact ⟨hx0b, hx1a⟩
      | exact ⟨A1, A2⟩
      | exact ⟨B1, B2⟩)
    (first
      | (go_at_call 73; (with_reducible refine (T1 _).mono ?_); rintro e w1 ⟨b1, hn1, hb1, rfl⟩; have hb1' := nx hz0.drew hb1; have A1 := keep_cell hb1' hx0b; have A2 := keep_cell hb1' hx1a)
      | (go_at_call 73; (with_reducible refine (T2 _).mono ?_); rintro e w2 ⟨b2, hn2, hb2, rfl⟩; have hb2' := nx hb1' hb2; have B1 := keep_cell hb2' hx0b; have B2 := keep_cell hb2' hx1a))
  go_wp2_with fail
  have hn1' := hn1.keep hb2
  refine (join_any p.2 q.1 b1 b2 _ hn1' hn2).mono ?_; rintro e w3 ⟨b3, hn3, hb3, rfl⟩
  have hbw3 := nx hb0 (nx hb2' hb3)
  have m1 := hn1'.keep hb3
  have m2 := hn2.keep hb3
  have hy0 := heap_keep (nx hb2' hb3) hx0
  have hy1 := heap_keep (nx hb2' hb3) hx1
  have hy2 := heap_keep (nx hb2' hb3) hx2
  have hb00 := Below.refl w3.heap.size w3
  clear hx0 hx1 hx2 hx0a hx0b hx0c hx0f hx0g hx1a hx1b hx1c hx1f hx1g hx2a hx2b hx2c hx2f hx2g A1 A2 B1 B2 hn1 hn2 hn1' hb1 hb2 hb1' hb2' hb3 hz0 hb0 T1 T2
  obtain ⟨k1, _⟩ := two_cells hy0
  obtain ⟨_, k2⟩ := two_cells hy1
  generalize hJ : p.2.join q.1 = J at *
  clear hJ
  go_wp2_with fail
  go_region_held3 (fun w' => w'.cell? ⟨w.heap.size, 0, none⟩ = some (.string p.1.str) ∧ w'.cell? ⟨w.heap.size + 1, 1, none⟩ = some (.string q.2.str))
    (first
      | exact ⟨k1, k2⟩
      | exact ⟨A1, A2⟩
      | exact ⟨B1, B2⟩
      | exact ⟨C1, C2⟩
      | exact ⟨D1, D2⟩
      | exact ⟨E1, E2⟩
      | exact ⟨G1, G2⟩)
    (first
      | (go_at_call_of 82 (some (⟨b1, 0, none⟩ : Addr)); refine (below_any p.2 J b1 b3 _ ?_ ?_ PJ1 hjc).mono ?_; exact m1.keep hb00.drew; exact hn3.keep hb00.drew; rintro e w4 ⟨g1, cap1, own1, hb4, rfl⟩; have hb4' := nx hb00.drew hb4; have A1 := keep_cell hb4' k1; have A2 := keep_cell hb4' k2)
      | (go_at_call_of 81 (some (⟨g1, 0, none⟩ : Addr)); refine (W1 _ _ _ own1.cells).mono ?_; rintro e w5 ⟨rfl, hb5⟩; have hb5' := nx hb4' hb5; have B1 := keep_cell hb5' k1; have B2 := keep_cell hb5' k2)
      | (go_at_call_of 82 (some (⟨b2, 0, none⟩ : Addr)); refine (below_any q.1 J b2 b3 _ ?_ ?_ PJ2 hjc).mono ?_; exact m2.keep hb5'; exact hn3.keep hb5'; rintro e w6 ⟨g2, cap2, own2, hb6, rfl⟩; have hb6' := nx hb5' hb6; have C1 := keep_cell hb6' k1; have C2 := keep_cell hb6' k2)
      | (go_at_call_of 81 (some (⟨g2, 0, none⟩ : Addr)); refine (W2 _ _ _ own2.cells).mono ?_; rintro e w7 ⟨rfl, hb7⟩; have hb7' := nx hb6' hb7; have D1 := keep_cell hb7' k1; have D2 := keep_cell hb7' k2)
      | (go_at_call 41; refine (RR _).mono ?_; rintro e w8 ⟨rfl, hb8⟩; have hb8' := nx hb7' hb8; have E1 := keep_cell hb8' k1; have E2 := keep_cell hb8' k2; have hz2 := heap_keep hb8' hy2; have hz0 := heap_keep hb8' hy0; have hz1 := heap_keep hb8' hy1; obtain ⟨n1, n2⟩ := two_cells hz2; obtain ⟨f1, f2⟩ := two_frozen hz2; have hq0 := (Below.heap_setCell (w8.setCell ⟨w.heap.size + 1 + 1, 0, none⟩ (.string (mulP p q).1.str)) ⟨w.heap.size + 1 + 1, 1, none⟩ (.string (mulP p q).2.str) w.heap.size (by show ¬ w.heap.size = w.heap.size + 1 + 1; omega)).trans ((Below.heap_setCell w8 ⟨w.heap.size + 1 + 1, 0, none⟩ (.string (mulP p q).1.str) w.heap.size (by show ¬ w.heap.size = w.heap.size + 1 + 1; omega)).trans hz0); have hq1 := (Below.heap_setCell (w8.setCell ⟨w.heap.size + 1 + 1, 0, none⟩ (.string (mulP p q).1.str)) ⟨w.heap.size + 1 + 1, 1, none⟩ (.string (mulP p q).2.str) (w.heap.size + 1) (by show ¬ w.heap.size + 1 = w.heap.size + 1 + 1; omega)).trans ((Below.heap_setCell w8 ⟨w.heap.size + 1 + 1, 0, none⟩ (.string (mulP p q).1.str) (w.heap.size + 1) (by show ¬ w.heap.size + 1 = w.heap.size + 1 + 1; omega)).trans hz1); have G1 := (two_cells hq0).1; have G2 := (two_cells hq1).2))
  go_wp2_with fail
  obtain ⟨q1, q2⟩ := two_cells (set_two (.string (mulP p q).1.str) (.string (mulP p q).2.str) hz2)
  refine bodyPost_ret (v := .agg #[.string (mulP p q).1.str, .string (mulP p q).2.str]) (by simp [q1, q2, results, Tryz.results52, go_sem]) rfl ⟨rfl, ?_⟩
  exact ((nx hbw3 hb8').setCell (by show w.heap.size ≤ w.heap.size + 1 + 1; omega) _).setCell (by show w.heap.size ≤ w.heap.size + 1 + 1; omega) _

set_option maxRecDepth 100000 in
set_option maxHeartbeats 4000000 in
theorem prTimes_any (p q : Pr) (w : World) (hp : okP p) (hq : okP q) (h1 : p.1.carets ≤ 30) (h2 : q.1.carets ≤ 30) :
    Calls Tryz.prog 34 #[.agg #[.string p.1.str, .string p.2.str], .agg #[.string q.1.str, .string q.2.str]] w (Gives (.agg #[.string (mulP p q).1.str, .string (mulP p q).2.str]) w) := by
  have hr := rawP_carets hp hq
  have hj := join_carets p.2 q.1
  have hp' : p.1.carets = p.2.carets := hp
  have hq' : q.1.carets = q.2.carets := hq
  have W1 := fun b v w h => prFill_raw1 hp hq h1 h2 b v w h
  have W2 := fun b v w h => prFill_raw2 hp hq h1 h2 b v w h
  have RR : ∀ w, Calls Tryz.prog 23 #[.agg #[.string (rawP p q).1.str, .string (rawP p q).2.str], .slice none 0 0] w (Gives (.agg #[.string (mulP p q).1.str, .string (mulP p q).2.str]) w) := fun w => prReduce_nil (rawP p q) w (by omega) (by omega)
  have P1 := fun w => prParts_any p.2 (p.2.join q.1) w (part_join p.2 q.1) (by omega)
  have P2 := fun w => prParts_any q.1 (p.2.join q.1) w (part_join' p.2 q.1) (by omega)
  have J := fun w => trJoin_any p.2 q.1 w (by omega) (by omega)
  clear hr hj
  go_enter Tryz.func34, Tryz.ntmps34
  go_wp2_with fail
  have hb0 : Below w.heap.size w (((w.alloc (.cells #[.string p.1.str, .string p.2.str] 28 (0, 0))).alloc (.cells #[.string q.1.str, .string q.2.str] 28 (0, 0))).alloc (.cells #[.string ⟨#[]⟩, .string ⟨#[]⟩] 28 (0, 0))) := nxAlloc (nxAlloc (nxAlloc (Below.refl _ _) _) _) _
  have hx0 := heap_keep (nxAlloc (Below.refl _ _) (.cells #[.string ⟨#[]⟩, .string ⟨#[]⟩] 28 (0, 0))) (heap_keep (nxAlloc (Below.refl _ _) (.cells #[.string q.1.str, .string q.2.str] 28 (0, 0))) (heap_alloc_at w (.cells #[.string p.1.str, .string p.2.str] 28 (0, 0))))
  have hx1 := heap_keep (nxAlloc (Below.refl _ _) (.cells #[.string ⟨#[]⟩, .string ⟨#[]⟩] 28 (0, 0))) (heap_alloc_at (w.alloc (.cells #[.string p.1.str, .string p.2.str] 28 (0, 0))) (.cells #[.string q.1.str, .string q.2.str] 28 (0, 0)))
  have hx2 := heap_alloc_at ((w.alloc (.cells #[.string p.1.str, .string p.2.str] 28 (0, 0))).alloc (.cells #[.string q.1.str, .string q.2.str] 28 (0, 0))) (.cells #[.string ⟨#[]⟩, .string ⟨#[]⟩] 28 (0, 0))
  generalize (((w.alloc (.cells #[.string p.1.str, .string p.2.str] 28 (0, 0))).alloc (.cells #[.string q.1.str, .string q.2.str] 28 (0, 0))).alloc (.cells #[.string ⟨#[]⟩, .string ⟨#[]⟩] 28 (0, 0))) = w0 at *
  have e1 : (w.alloc (.cells #[.string p.1.str, .string p.2.str] 28 (0, 0))).heap.size = w.heap.size + 1 := by simp
  rw [e1] at hx1
  clear e1
  have e2 : ((w.alloc (.cells #[.string p.1.str, .string p.2.str] 28 (0, 0))).alloc (.cells #[.string q.1.str, .string q.2.str] 28 (0, 0))).heap.size = w.heap.size + 1 + 1 := by simp
  rw [e2] at hx2
  clear e2
  obtain ⟨hx0a, hx0b, hx0c⟩ := two_facts hx0
  obtain ⟨hx0f, hx0g⟩ := two_frozen hx0
  obtain ⟨hx1a, hx1b, hx1c⟩ := two_facts hx1
  obtain ⟨hx1f, hx1g⟩ := two_frozen hx1
  obtain ⟨hx2a, hx2b, hx2c⟩ := two_facts hx2
  obtain ⟨hx2f, hx2g⟩ := two_frozen hx2
  refine (J _).mono ?_; rintro e w1 ⟨rfl, hb1⟩
  have hbw1 := nx hb0 hb1
  replace hx0 := heap_keep hb1 hx0
  replace hx1 := heap_keep hb1 hx1
  replace hx2 := heap_keep hb1 hx2
  clear hx0a hx0b hx0c hx0f hx0g
  obtain ⟨hx0a, hx0b, hx0c⟩ := two_facts hx0
  obtain ⟨hx0f, hx0g⟩ := two_frozen hx0
  clear hx1a hx1b hx1c hx1f hx1g
  obtain ⟨hx1a, hx1b, hx1c⟩ := two_facts hx1
  obtain ⟨hx1f, hx1g⟩ := two_frozen hx1
  clear hx2a hx2b hx2c hx2f hx2g
  obtain ⟨hx2a, hx2b, hx2c⟩ := two_facts hx2
  obtain ⟨hx2f, hx2g⟩ := two_frozen hx2
  clear hb1 hb0
  have hb00 := Below.refl w1.heap.size w1
  generalize p.2.join q.1 = G at *
  go_wp2_with fail
  go_region_held3 (fun w' => w'.cell? ⟨w.heap.size, 0, none⟩ = some (.string p.1.str) ∧ w'.cell? ⟨w.heap.size, 1, none⟩ = some (.string p.2.str) ∧ w'.cell? ⟨w.heap.size + 1, 0, none⟩ = some (.string q.1.str) ∧ w'.cell? ⟨w.heap.size + 1, 1, none⟩ = some (.string q.2.str))
    (first
      | exact ⟨hx0a, hx0b, hx1a, hx1b⟩
      | exact ⟨A1.1, A1.2, A2.1, A2.2⟩
      | exact ⟨B1.1, B1.2, B2.1, B2.2⟩
      | exact ⟨C1.1, C1.2, C2.1, C2.2⟩
      | exact ⟨D1.1, D1.2, D2.1, D2.2⟩
      | exact ⟨E1.1, E1.2, E2.1, E2.2⟩
      | exact ⟨G1.1, G1.2, G2.1, G2.2⟩)
    (first
      | (go_at_call 59; (with_reducible refine (P1 _).mono ?_); rintro e w4 ⟨g1, cap1, own1, hb4, rfl⟩; have hb4' := nx hb00.drew hb4; have A1 := two_cells (heap_keep hb4' hx0); have A2 := two_cells (heap_keep hb4' hx1))
      | (go_at_call_of 58 (some (⟨g1, 0, none⟩ : Addr)); refine (W1 _ _ _ own1.cells).mono ?_; rintro e w5 ⟨rfl, hb5⟩; have hb5' := nx hb4' hb5; have B1 := two_cells (heap_keep hb5' hx0); have B2 := two_cells (heap_keep hb5' hx1))
      | (go_at_call 59; (with_reducible refine (P2 _).mono ?_); rintro e w6 ⟨g2, cap2, own2, hb6, rfl⟩; have hb6' := nx hb5' hb6; have C1 := two_cells (heap_keep hb6' hx0); have C2 := two_cells (heap_keep hb6' hx1))
      | (go_at_call_of 58 (some (⟨g2, 0, none⟩ : Addr)); refine (W2 _ _ _ own2.cells).mono ?_; rintro e w7 ⟨rfl, hb7⟩; have hb7' := nx hb6' hb7; have D1 := two_cells (heap_keep hb7' hx0); have D2 := two_cells (heap_keep hb7' hx1))
      | (go_at_call 23; refine (RR _).mono ?_; rintro e w8 ⟨rfl, hb8⟩; have hb8' := nx hb7' hb8; have hz0 := heap_keep hb8' hx0; have hz1 := heap_keep hb8' hx1; have hz2 := heap_keep hb8' hx2; have E1 := two_cells hz0; have E2 := two_cells hz1; obtain ⟨n1, n2⟩ := two_cells hz2; obtain ⟨f1, f2⟩ := two_frozen hz2; have hq0 := (Below.heap_setCell (w8.setCell ⟨w.heap.size + 1 + 1, 0, none⟩ (.string (mulP p q).1.str)) ⟨w.heap.size + 1 + 1, 1, none⟩ (.string (mulP p q).2.str) w.heap.size (by show ¬ w.heap.size = w.heap.size + 1 + 1; omega)).trans ((Below.heap_setCell w8 ⟨w.heap.size + 1 + 1, 0, none⟩ (.string (mulP p q).1.str) w.heap.size (by show ¬ w.heap.size = w.heap.size + 1 + 1; omega)).trans hz0); have hq1 := (Below.heap_setCell (w8.setCell ⟨w.heap.size + 1 + 1, 0, none⟩ (.string (mulP p q).1.str)) ⟨w.heap.size + 1 + 1, 1, none⟩ (.string (mulP p q).2.str) (w.heap.size + 1) (by show ¬ (w.heap.size + 1) = w.heap.size + 1 + 1; omega)).trans ((Below.heap_setCell w8 ⟨w.heap.size + 1 + 1, 0, none⟩ (.string (mulP p q).1.str) (w.heap.size + 1) (by show ¬ (w.heap.size + 1) = w.heap.size + 1 + 1; omega)).trans hz1); have G1 := two_cells hq0; have G2 := two_cells hq1))
  go_wp2_with fail
  obtain ⟨q1, q2⟩ := two_cells (set_two (.string (mulP p q).1.str) (.string (mulP p q).2.str) hz2)
  refine bodyPost_ret (v := .agg #[.string (mulP p q).1.str, .string (mulP p q).2.str]) (by simp [q1, q2, results, Tryz.results34, go_sem]) rfl ⟨rfl, ?_⟩
  exact ((nx hbw1 hb8').setCell (by show w.heap.size ≤ w.heap.size + 1 + 1; omega) _).setCell (by show w.heap.size ≤ w.heap.size + 1 + 1; omega) _
end Go.Proofs.YtlcepokenaiggaaGreatDoor

/-! LimP -/
namespace Go.Proofs.YtlcepokenaiggaaGreatDoor
open Go.RowKit

/-- A pair, if its trees have no more carets than allowed. -/
def limP (p : Pr) : Option Pr := if p.1.carets ≤ 8 then some p else none
theorem treeOf_big {t : Tr} (h : 8 < t.carets) : treeOf t.str = none := by
  unfold treeOf
  rw [parse_str t _ (by have := t.str_size; have := t.text_len; omega)]
  show (if t.carets ≤ 8 then some t else none) = none
  rw [if_neg (by omega)]
theorem pairOf_lim {p : Pr} (h : okP p) : pairOf p.1.str p.2.str = limP p := by
  unfold limP
  by_cases hc : p.1.carets ≤ 8
  · rw [if_pos hc, pairOf_str h hc]
  · rw [if_neg hc]
    unfold pairOf
    rw [treeOf_big (by omega)]

end Go.Proofs.YtlcepokenaiggaaGreatDoor

/-! Unit -/
namespace Go.Proofs.YtlcepokenaiggaaGreatDoor
open Go.RowKit

/-- The pair of two leaves. -/
def unitP : Pr := (.lf, .lf)
/-- The product of so many, if none on the way is too great. -/
def pwN (b : Pr) : Nat → Option Pr
  | 0 => some unitP
  | k + 1 => (pwN b k).bind fun o => limP (mulP o b)
def powP (p : Pr) (k : Int) : Option Pr := if -10 ≤ k ∧ k ≤ 10 then (if k < 0 then pwN (invP p) (-k).toNat else pwN p k.toNat) else none

theorem limP_some {p q : Pr} (h : limP p = some q) : q = p ∧ p.1.carets ≤ 8 := by
  unfold limP at h
  split at h
  · next hc => injection h with h; exact ⟨h.symm, hc⟩
  · simp at h
theorem pwN_ok {b : Pr} (hb : okP b) : ∀ {k : Nat} {o : Pr}, pwN b k = some o → okP o ∧ o.1.carets ≤ 8 := by
  intro k
  induction k with
  | zero => intro o h; injection h with h; subst h; exact ⟨rfl, by decide⟩
  | succ k ih =>
    intro o h
    rw [pwN] at h
    cases h1 : pwN b k with
    | none => rw [h1] at h; simp at h
    | some q =>
      rw [h1] at h
      obtain ⟨e, hc⟩ := limP_some (show limP (mulP q b) = some o from h)
      rw [e]
      exact ⟨mulP_ok (ih h1).1 hb, hc⟩
theorem pwN_none {b : Pr} {k : Nat} (h : pwN b k = none) : ∀ j, k ≤ j → pwN b j = none := by
  intro j hj
  induction j with
  | zero => have : k = 0 := by omega
            subst this; exact h
  | succ j ih =>
    by_cases e : k = j + 1
    · rw [← e]; exact h
    · rw [pwN, ih (by omega)]; rfl

theorem prUnit_any (w : World) : Calls Tryz.prog 33 #[] w (Gives (.agg #[.string Tr.lf.str, .string Tr.lf.str]) w) := by
  go_enter Tryz.func33, Tryz.ntmps33
  go_wp2
  refine bodyPost_ret (v := .agg #[.string Tr.lf.str, .string Tr.lf.str]) (by simp [results, Tryz.results33, go_sem]; rfl) rfl ⟨rfl, ?_⟩
  exact nxAlloc (Below.refl _ _) _

theorem identity_any (w : World) : Calls Tryz.prog 37 #[] w (Gives (.agg #[.string Tr.lf.str, .string Tr.lf.str]) w) := by
  go_enter Tryz.func37, Tryz.ntmps37
  go_wp2
  refine bodyPost_ret (v := .agg #[.string Tr.lf.str, .string Tr.lf.str]) (by simp [results, Tryz.results37, go_sem]; rfl) rfl ⟨rfl, ?_⟩
  exact nxAlloc (Below.refl _ _) _
end Go.Proofs.YtlcepokenaiggaaGreatDoor

/-! Pw -/
namespace Go.Proofs.YtlcepokenaiggaaGreatDoor
open Go.RowKit

theorem genP_ok (i : Nat) : okP (genP i) ∧ (genP i).1.carets = i + 2 := by
  have h1 := graft_carets (rcomb i) (lcomb 2) i (by omega) (by simp [Tr.leaves, rcomb_carets]; omega)
  rw [rcomb_carets, lcomb_carets] at h1
  refine ⟨?_, h1⟩
  show (genP i).1.carets = (genP i).2.carets
  show ((rcomb i).graft i (lcomb 2)).carets = (rcomb (i + 2)).carets
  rw [h1, rcomb_carets]
/-- The pair of a letter. -/
def ltP (x : Int) : Pr := if x < 0 then invP (genP (num x).toNat) else genP (num x).toNat
theorem ltP_ok (x : Int) : okP (ltP x) ∧ (ltP x).1.carets = (num x).toNat + 2 := by
  have h := genP_ok (num x).toNat
  unfold ltP
  split
  · exact ⟨h.1.symm, by show (genP (num x).toNat).2.carets = _; rw [← h.2]; exact h.1.symm⟩
  · exact h

set_option maxHeartbeats 1000000 in
theorem wdLetter_any (x : Int) (w : World) (h0 : x ≠ 0) (h1 : -7 ≤ x) (h2 : x ≤ 7) :
    Calls Tryz.prog 35 #[.int .i64 x] w (Gives (.agg #[.string (ltP x).1.str, .string (ltP x).2.str]) w) := by
  by_cases hx : x < 0
  · obtain ⟨n, rfl⟩ : ∃ n : Nat, x = -((n : Int) + 1) := ⟨(-x - 1).toNat, by omega⟩
    have hn : (num (-((n : Int) + 1))).toNat = n := by unfold num; rw [if_pos hx]; omega
    unfold ltP
    rw [if_pos hx, hn]
    have hG := fun w => prGenerator_any n w (by omega)
    have hI := fun w => prInverse_any (genP n).1.str (genP n).2.str w
    have hd : (-((n : Int) + 1)) < 0 := hx
    have e1 : -(-((n : Int) + 1)) - 1 = (n : Int) := by omega
    show Calls _ _ _ _ (Gives (.agg #[.string (genP n).2.str, .string (genP n).1.str]) w)
    generalize (genP n).1.str = A at *
    generalize (genP n).2.str = B at *
    clear h0 hn hx
    go_enter Tryz.func35, Tryz.ntmps35
    go_wp2_with fail
    have hx0 := heap_alloc_at w (.cells #[.string ⟨#[]⟩, .string ⟨#[]⟩] 28 (0, 0))
    have hb0 := nxAlloc (Below.refl w.heap.size w) (.cells #[.string ⟨#[]⟩, .string ⟨#[]⟩] 28 (0, 0))
    generalize w.alloc (.cells #[.string ⟨#[]⟩, .string ⟨#[]⟩] 28 (0, 0)) = w0 at *
    obtain ⟨ka, kb, kc⟩ := two_facts hx0
    obtain ⟨kf, kg⟩ := two_frozen hx0
    refine (hG _).mono ?_; rintro e w1 ⟨rfl, hb1⟩
    replace hx0 := heap_keep hb1 hx0
    have hbw1 := nx hb0 hb1
    clear ka kb kc kf kg hb0 hb1 hG
    go_wp2_with fail
    refine (hI _).mono ?_; rintro e w2 ⟨rfl, hb2⟩
    replace hx0 := heap_keep hb2 hx0
    have hbw2 := nx hbw1 hb2
    obtain ⟨ka, kb, kc⟩ := two_facts hx0
    obtain ⟨kf, kg⟩ := two_frozen hx0
    clear hb2 hbw1 hI
    go_wp2_with fail
    obtain ⟨q1, q2⟩ := two_cells (set_two (.string B) (.string A) hx0)
    refine bodyPost_ret (v := .agg #[.string B, .string A]) (by simp [q1, q2, results, Tryz.results35, go_sem]) rfl ⟨rfl, ?_⟩
    exact (hbw2.setCell (Nat.le_refl _) _).setCell (Nat.le_refl _) _
  · obtain ⟨n, rfl⟩ : ∃ n : Nat, x = (n : Int) + 1 := ⟨(x - 1).toNat, by omega⟩
    have hn : (num ((n : Int) + 1)).toNat = n := by unfold num; rw [if_neg hx]; omega
    unfold ltP
    rw [if_neg hx, hn]
    have hG := fun w => prGenerator_any n w (by omega)
    have hd : (0 : Int) ≤ (n : Int) + 1 := by omega
    have e1 : (n : Int) + 1 - 1 = (n : Int) := by omega
    generalize (genP n).1.str = A at *
    generalize (genP n).2.str = B at *
    clear h0 hn hx
    go_enter Tryz.func35, Tryz.ntmps35
    go_wp2_with fail
    have hx0 := heap_alloc_at w (.cells #[.string ⟨#[]⟩, .string ⟨#[]⟩] 28 (0, 0))
    have hb0 := nxAlloc (Below.refl w.heap.size w) (.cells #[.string ⟨#[]⟩, .string ⟨#[]⟩] 28 (0, 0))
    generalize w.alloc (.cells #[.string ⟨#[]⟩, .string ⟨#[]⟩] 28 (0, 0)) = w0 at *
    refine (hG _).mono ?_; rintro e w1 ⟨rfl, hb1⟩
    replace hx0 := heap_keep hb1 hx0
    have hbw1 := nx hb0 hb1
    obtain ⟨ka, kb, kc⟩ := two_facts hx0
    obtain ⟨kf, kg⟩ := two_frozen hx0
    clear hb0 hb1 hG
    go_wp2_with fail
    obtain ⟨q1, q2⟩ := two_cells (set_two (.string A) (.string B) hx0)
    refine bodyPost_ret (v := .agg #[.string A, .string B]) (by simp [q1, q2, results, Tryz.results35, go_sem]) rfl ⟨rfl, ?_⟩
    exact (hbw1.setCell (Nat.le_refl _) _).setCell (Nat.le_refl _) _

/-- The answer of the program's letter. -/
def ltO (x : Int) : Option Pr := if num x ≤ 6 then some (ltP x) else none
set_option maxRecDepth 100000 in
set_option maxHeartbeats 2000000 in
theorem pairOfLetter_any (x : Int) (w : World) (h0 : x ≠ 0) (h1 : -21 ≤ x) (h2 : x ≤ 21) :
    Calls Tryz.prog 51 #[.int .i64 x] w (Gives (ansPr (ltO x)) w) := by
  have hN := fun w => numberOf_any x w (by omega) (by omega)
  have hn1 : 0 ≤ num x ∧ num x ≤ 20 := by unfold num; split <;> omega
  have hG := fun w => implGeneratorPair_any (num x) w (by omega) (by omega)
  have hans : ansPr (genO (num x)) = .tuple #[.agg #[.string (pS1 (genO (num x))), .string (pS2 (genO (num x)))], .bool (genO (num x)).isSome] := rfl
  simp only [hans] at hG
  have hfin : ansPr (ltO x) = if x < 0 then .tuple #[.agg #[.string (pS2 (genO (num x))), .string (pS1 (genO (num x)))], .bool (genO (num x)).isSome] else .tuple #[.agg #[.string (pS1 (genO (num x))), .string (pS2 (genO (num x)))], .bool (genO (num x)).isSome] := by
    by_cases h6 : num x ≤ 6
    · have e1 : ltO x = some (ltP x) := by unfold ltO; rw [if_pos h6]
      have e2 : genO (num x) = some (genP (num x).toNat) := by unfold genO; rw [if_pos ⟨hn1.1, h6⟩]
      rw [e1, e2]
      unfold ltP
      by_cases hx : x < 0
      · rw [if_pos hx, if_pos hx]; rfl
      · rw [if_neg hx, if_neg hx]; rfl
    · have e1 : ltO x = none := by unfold ltO; rw [if_neg h6]
      have e2 : genO (num x) = none := by unfold genO; rw [if_neg (fun h => h6 h.2)]
      rw [e1, e2]
      split <;> rfl
  rw [hfin]
  have hI := fun w => inverse_any (pS1 (genO (num x))) (pS2 (genO (num x))) w
  generalize pS1 (genO (num x)) = A at *
  generalize pS2 (genO (num x)) = B at *
  generalize (genO (num x)).isSome = ok at *
  clear hans hfin h0
  by_cases hx : x < 0
  · rw [if_pos hx]
    go_enter Tryz.func51, Tryz.ntmps51
    go_wp2_with fail
    have hx0 := heap_alloc_at w (.cells #[.string ⟨#[]⟩, .string ⟨#[]⟩] 28 (0, 0))
    have hb0 := nxAlloc (Below.refl w.heap.size w) (.cells #[.string ⟨#[]⟩, .string ⟨#[]⟩] 28 (0, 0))
    generalize w.alloc (.cells #[.string ⟨#[]⟩, .string ⟨#[]⟩] 28 (0, 0)) = w0 at *
    refine (hN _).mono ?_; rintro e w1 ⟨rfl, rfl⟩
    go_wp2_with fail
    refine (hG _).mono ?_; rintro e w1 ⟨rfl, hb1⟩
    replace hx0 := heap_keep hb1 hx0
    have hbw1 := nx hb0 hb1
    have hs1 : w.heap.size < w1.heap.size := lt_of_block hx0
    clear hb0 hb1 hG hN
    go_wp2_with fail
    have hy0 := heap_alloc_at w1 (.cells #[.string A, .string B] 28 (0, 0))
    replace hx0 := heap_keep (nxAlloc (Below.refl w1.heap.size w1) (.cells #[.string A, .string B] 28 (0, 0))) hx0
    have hbw2 := nxAlloc hbw1 (.cells #[.string A, .string B] 28 (0, 0))
    generalize w1.alloc (.cells #[.string A, .string B] 28 (0, 0)) = w2 at *
    obtain ⟨ka, kb, kc⟩ := two_facts hx0
    obtain ⟨kf, kg⟩ := two_frozen hx0
    obtain ⟨ya, yb, yc⟩ := two_facts hy0
    obtain ⟨yf, yg⟩ := two_frozen hy0
    clear hbw1
    go_wp2_with fail
    refine (hI _).mono ?_; rintro e w3 ⟨rfl, hb3⟩
    replace hx0 := heap_keep hb3 hx0
    replace hy0 := heap_keep hb3 hy0
    have hbw3 := nx hbw2 hb3
    clear ka kb kc kf kg ya yb yc yf yg hb3 hbw2 hI
    obtain ⟨ka, kb, kc⟩ := two_facts hx0
    obtain ⟨kf, kg⟩ := two_frozen hx0
    obtain ⟨yf, yg⟩ := two_frozen hy0
    obtain ⟨ya, yb, yc⟩ := two_facts hy0
    have hz0 := set_two (.string B) (.string A) hy0
    have hx1 : ((w3.setCell ⟨w1.heap.size, 0, none⟩ (.string B)).setCell ⟨w1.heap.size, 1, none⟩ (.string A)).heap[w.heap.size]? = some (.cells #[.string ⟨#[]⟩, .string ⟨#[]⟩] 28 (0, 0)) := by
      rw [Below.heap_setCell _ _ _ _ (by show w.heap.size ≠ w1.heap.size; omega), Below.heap_setCell _ _ _ _ (by show w.heap.size ≠ w1.heap.size; omega)]; exact hx0
    have hbw4 : Below w.heap.size w ((w3.setCell ⟨w1.heap.size, 0, none⟩ (.string B)).setCell ⟨w1.heap.size, 1, none⟩ (.string A)) := (hbw3.setCell (by show w.heap.size ≤ w1.heap.size; omega) _).setCell (by show w.heap.size ≤ w1.heap.size; omega) _
    have HZ := Lib.hid hz0
    have HX1 := Lib.hid hx1
    have HB4 := Lib.hid hbw4
    obtain ⟨za, zb, zc⟩ := two_facts hz0
    clear hz0 hx1 hbw4
    go_wp2_with fail
    obtain ⟨q1, q2⟩ := two_cells (set_two (.string B) (.string A) HX1.out)
    refine bodyPost_ret (v := .tuple #[.agg #[.string B, .string A], .bool ok]) (by simp [q1, q2, results, Tryz.results51, go_sem]) rfl ⟨rfl, ?_⟩
    exact (HB4.out.setCell (Nat.le_refl _) _).setCell (Nat.le_refl _) _
  · rw [if_neg hx]
    go_enter Tryz.func51, Tryz.ntmps51
    go_wp2_with fail
    have hx0 := heap_alloc_at w (.cells #[.string ⟨#[]⟩, .string ⟨#[]⟩] 28 (0, 0))
    have hb0 := nxAlloc (Below.refl w.heap.size w) (.cells #[.string ⟨#[]⟩, .string ⟨#[]⟩] 28 (0, 0))
    generalize w.alloc (.cells #[.string ⟨#[]⟩, .string ⟨#[]⟩] 28 (0, 0)) = w0 at *
    refine (hN _).mono ?_; rintro e w1 ⟨rfl, rfl⟩
    go_wp2_with fail
    refine (hG _).mono ?_; rintro e w1 ⟨rfl, hb1⟩
    replace hx0 := heap_keep hb1 hx0
    have hbw1 := nx hb0 hb1
    have hs1 : w.heap.size < w1.heap.size := lt_of_block hx0
    clear hb0 hb1 hG hN
    obtain ⟨ka, kb, kc⟩ := two_facts hx0
    obtain ⟨kf, kg⟩ := two_frozen hx0
    go_wp2_with fail
    have hx1 := heap_keep (nxAlloc (Below.refl _ _) (.cells #[.string A, .string B] 28 (0, 0))) (set_two (.string A) (.string B) hx0)
    have hbw2 := nxAlloc ((hbw1.setCell (p := ⟨w.heap.size, 0, none⟩) (Nat.le_refl _) (.string A)).setCell (p := ⟨w.heap.size, 1, none⟩) (Nat.le_refl _) (.string B)) (.cells #[.string A, .string B] 28 (0, 0))
    obtain ⟨q1, q2⟩ := two_cells hx1
    refine bodyPost_ret (v := .tuple #[.agg #[.string A, .string B], .bool ok]) (by simp [q1, q2, results, Tryz.results51, go_sem]) rfl ⟨rfl, ?_⟩
    exact hbw2
end Go.Proofs.YtlcepokenaiggaaGreatDoor

/-! KiP -/
namespace Go.Proofs.YtlcepokenaiggaaGreatDoor

def sL0 : ByteArray := ⟨#[76, 48]⟩
def sLL : ByteArray := ⟨#[76, 76]⟩
def sR0 : ByteArray := ⟨#[82, 48]⟩
def sRI : ByteArray := ⟨#[82, 73]⟩
def sRN : ByteArray := ⟨#[82, 78]⟩
def sI0 : ByteArray := ⟨#[73, 48]⟩
def sIR : ByteArray := ⟨#[73, 82]⟩
def sR : ByteArray := ⟨#[82]⟩

/-- The kind of a caret on neither side. -/
def inK (b : Bool) : ByteArray := if b then sI0 else sIR
namespace Tr
def inn : Tr → List ByteArray
  | lf => []
  | nd l r => l.inn ++ inK r.isLf :: r.inn
def lft : Tr → List ByteArray
  | lf => []
  | nd l r => l.lft ++ sLL :: r.inn
def rgt : Tr → List ByteArray
  | lf => []
  | nd l r => l.inn ++ sR :: r.rgt
def raw : Tr → List ByteArray
  | lf => []
  | nd l r => l.lft ++ sLL :: r.rgt
end Tr

/-- Whether a kind is that of a caret on neither side. -/
def isNe (s : ByteArray) : Bool := s = sI0 || s = sIR
/-- The kinds on the right side told, from behind: with whether all are on it. -/
def finF : List ByteArray → List ByteArray × Bool
  | [] => ([], true)
  | x :: r =>
    if x = sR then
      if (finF r).2 then (sR0 :: (finF r).1, true)
      else if isNe ((finF r).1.headD ⟨#[]⟩) then (sRI :: (finF r).1, false)
      else (sRN :: (finF r).1, false)
    else (x :: (finF r).1, false)
/-- The first caret is L0. -/
def firstK : List ByteArray → List ByteArray
  | [] => []
  | _ :: r => sL0 :: r
def Tr.kinds (t : Tr) : List ByteArray := (finF (firstK t.raw)).1

theorem finF_length (l : List ByteArray) : (finF l).1.length = l.length := by
  induction l with
  | nil => rfl
  | cons x r ih =>
    rw [finF]
    split
    · split
      · simp [ih]
      · split <;> simp [ih]
    · simp [ih]
theorem firstK_length (l : List ByteArray) : (firstK l).length = l.length := by cases l <;> rfl
theorem inn_length (t : Tr) : t.inn.length = t.carets := by
  induction t with
  | lf => rfl
  | nd l r ihl ihr => simp [Tr.inn, Tr.carets, ihl, ihr]; omega
theorem lft_length (t : Tr) : t.lft.length = t.carets := by
  induction t with
  | lf => rfl
  | nd l r ihl ihr => simp [Tr.lft, Tr.carets, ihl, inn_length]; omega
theorem rgt_length (t : Tr) : t.rgt.length = t.carets := by
  induction t with
  | lf => rfl
  | nd l r ihl ihr => simp [Tr.rgt, Tr.carets, ihr, inn_length]; omega
theorem raw_length (t : Tr) : t.raw.length = t.carets := by
  cases t with
  | lf => rfl
  | nd l r => simp [Tr.raw, Tr.carets, lft_length, rgt_length]; omega
theorem kinds_length (t : Tr) : t.kinds.length = t.carets := by
  unfold Tr.kinds
  rw [finF_length, firstK_length, raw_length]

/-- One step of the loop from behind. -/
theorem finF_step (x : ByteArray) (r : List ByteArray) : finF (x :: r) = if x = sR then
      if (finF r).2 then (sR0 :: (finF r).1, true)
      else if isNe ((finF r).1.headD ⟨#[]⟩) then (sRI :: (finF r).1, false)
      else (sRN :: (finF r).1, false)
    else (x :: (finF r).1, false) := rfl
theorem finF_late (l : List ByteArray) (h : (finF l).2 = false) : l ≠ [] := by
  intro e
  rw [e] at h
  simp [finF] at h

/-- The carets of a tree: their addresses, and whether their right sides are leaves. -/
def Tr.cars : Tr → ByteArray → List (ByteArray × Bool)
  | .lf, _ => []
  | .nd l r, here => l.cars (here ++ ⟨#[48]⟩) ++ (here, r.isLf) :: r.cars (here ++ ⟨#[49]⟩)
theorem cars_length (t : Tr) : ∀ here, (t.cars here).length = t.carets := by
  induction t with
  | lf => intro here; rfl
  | nd l r ihl ihr => intro here; simp [Tr.cars, Tr.carets, ihl, ihr]; omega
theorem cars_size (t : Tr) : ∀ here, ∀ x ∈ t.cars here, x.1.size ≤ here.size + t.carets := by
  induction t with
  | lf => intro here x hx; simp [Tr.cars] at hx
  | nd l r ihl ihr =>
    intro here x hx
    simp only [Tr.cars, List.mem_append, List.mem_cons] at hx
    have e : (Tr.nd l r).carets = l.carets + r.carets + 1 := rfl
    have s0 : (here ++ (⟨#[48]⟩ : ByteArray)).size = here.size + 1 := ByteArray.size_append
    have s1 : (here ++ (⟨#[49]⟩ : ByteArray)).size = here.size + 1 := ByteArray.size_append
    rcases hx with hx | rfl | hx
    · have := ihl _ x hx; omega
    · show here.size ≤ _; omega
    · have := ihr _ x hx; omega
def hasB (s : ByteArray) (c : UInt8) : Bool := s.data.toList.contains c
/-- The kind of a caret by its address: sR on the right side. -/
def codeK (x : ByteArray × Bool) : ByteArray :=
  if hasB x.1 49 = false then sLL else if hasB x.1 48 = false then sR else inK x.2
theorem hasB_append (a b : ByteArray) (c : UInt8) : hasB (a ++ b) c = (hasB a c || hasB b c) := by
  have e : (a ++ b).data.toList = a.data.toList ++ b.data.toList := by simp [ByteArray.data_append]
  unfold hasB
  rw [e]
  induction a.data.toList with
  | nil => simp
  | cons x l ih => simp only [List.cons_append, List.contains_cons, ih, Bool.or_assoc]
theorem cars_inn (t : Tr) : ∀ here, hasB here 48 = true → hasB here 49 = true → (t.cars here).map codeK = t.inn := by
  induction t with
  | lf => intro here h k; rfl
  | nd l r ihl ihr =>
    intro here h k
    simp only [Tr.cars, Tr.inn, List.map_append, List.map_cons]
    rw [ihl _ (by rw [hasB_append, h]; rfl) (by rw [hasB_append, k]; rfl), ihr _ (by rw [hasB_append, h]; rfl) (by rw [hasB_append, k]; rfl)]
    congr 2
    simp [codeK, h, k]
theorem cars_lft (t : Tr) : ∀ here, hasB here 48 = true → hasB here 49 = false → (t.cars here).map codeK = t.lft := by
  induction t with
  | lf => intro here h k; rfl
  | nd l r ihl ihr =>
    intro here h k
    simp only [Tr.cars, Tr.lft, List.map_append, List.map_cons]
    rw [ihl _ (by rw [hasB_append, h]; rfl) (by rw [hasB_append, k]; rfl), cars_inn r _ (by rw [hasB_append, h]; rfl) (by rw [hasB_append, k]; rfl)]
    congr 2
    simp [codeK, k]
theorem cars_rgt (t : Tr) : ∀ here, hasB here 48 = false → hasB here 49 = true → (t.cars here).map codeK = t.rgt := by
  induction t with
  | lf => intro here h k; rfl
  | nd l r ihl ihr =>
    intro here h k
    simp only [Tr.cars, Tr.rgt, List.map_append, List.map_cons]
    rw [cars_inn l _ (by rw [hasB_append, h]; rfl) (by rw [hasB_append, k]; rfl), ihr _ (by rw [hasB_append, h]; rfl) (by rw [hasB_append, k]; rfl)]
    congr 2
    simp [codeK, h, k]
theorem cars_raw (t : Tr) : (t.cars ⟨#[]⟩).map codeK = t.raw := by
  cases t with
  | lf => rfl
  | nd l r =>
    simp only [Tr.cars, Tr.raw, List.map_append, List.map_cons]
    rw [cars_lft l _ rfl rfl, cars_rgt r _ rfl rfl]
    rfl

/-- The kind of a caret on the right side, by those behind it. -/
def korK (later : List ByteArray) : ByteArray :=
  if later.any isNe = false then sR0 else if isNe (later.headD ⟨#[]⟩) then sRI else sRN
def kindK (i : Nat) (x : ByteArray) (later : List ByteArray) : ByteArray :=
  if i = 0 then sL0 else if x = sLL then sLL else if x = sR then korK later else x
/-- The kinds from a place on. -/
def kindsFrom : Nat → List ByteArray → List ByteArray
  | _, [] => []
  | i, x :: r => kindK i x r :: kindsFrom (i + 1) r

theorem isNe_LL : isNe sLL = false := by decide
theorem isNe_R : isNe sR = false := by decide
/-- Codes: behind one on the right side none is on the left side. -/
def okC : List ByteArray → Prop
  | [] => True
  | x :: r => (x = sLL ∨ x = sR ∨ isNe x = true) ∧ (x = sR → sLL ∉ r) ∧ okC r
theorem okC_any {r : List ByteArray} (h : okC r) (k : sLL ∉ r) : (finF r).2 = !(r.any isNe) := by
  induction r with
  | nil => rfl
  | cons x r ih =>
    obtain ⟨h1, _, h3⟩ := h
    have hx : x ≠ sLL := fun e => k (by rw [e]; exact List.mem_cons_self)
    have kr : sLL ∉ r := fun e => k (List.mem_cons_of_mem _ e)
    have := ih h3 kr
    rw [finF_step]
    rcases h1 with h1 | h1 | h1
    · exact absurd h1 hx
    · rw [if_pos h1, List.any_cons, h1, isNe_R, Bool.false_or]
      cases hf : (finF r).2 with
      | true => rw [hf] at this; simp [← this]
      | false =>
        rw [hf] at this
        simp only [Bool.false_eq_true, if_false]
        split <;> exact this
    · have : x ≠ sR := by intro e; rw [e, isNe_R] at h1; cases h1
      rw [if_neg this]
      simp [h1]
theorem headD_finF (r : List ByteArray) (h : okC r) : isNe ((finF r).1.headD ⟨#[]⟩) = isNe (r.headD ⟨#[]⟩) := by
  cases r with
  | nil => rfl
  | cons x r =>
    rw [finF_step]
    by_cases hx : x = sR
    · rw [if_pos hx]
      show _ = isNe x
      rw [hx, isNe_R]
      split
      · rfl
      · split <;> rfl
    · rw [if_neg hx]
      rfl
theorem finF_kinds (r : List ByteArray) (h : okC r) : ∀ i, 0 < i → (finF r).1 = kindsFrom i r := by
  induction r with
  | nil => intro i hi; rfl
  | cons x r ih =>
    intro i hi
    have hh := h
    obtain ⟨h1, h2, h3⟩ := h
    rw [finF_step, kindsFrom, kindK, if_neg (show ¬ i = 0 by omega), ← ih h3 (i + 1) (by omega)]
    by_cases hx : x = sR
    · have hx2 : x ≠ sLL := by rw [hx]; decide
      have ha := okC_any h3 (h2 hx)
      have hd := headD_finF r h3
      rw [if_pos hx, if_pos hx, if_neg hx2]
      unfold korK
      rw [hd, ha]
      cases r.any isNe with
      | false => rfl
      | true =>
        simp only [Bool.not_true, Bool.false_eq_true, if_false, reduceCtorEq]
        split <;> rfl
    · rw [if_neg hx, if_neg hx]
      split
      · next hl => rw [hl]
      · rfl
theorem inK_ne (b : Bool) : isNe (inK b) = true := by cases b <;> decide
theorem inn_all (t : Tr) : ∀ x ∈ t.inn, isNe x = true := by
  induction t with
  | lf => intro x hx; simp [Tr.inn] at hx
  | nd l r ihl ihr =>
    intro x hx
    simp only [Tr.inn, List.mem_append, List.mem_cons] at hx
    rcases hx with hx | rfl | hx
    · exact ihl x hx
    · exact inK_ne _
    · exact ihr x hx
theorem rgt_all (t : Tr) : ∀ x ∈ t.rgt, x = sR ∨ isNe x = true := by
  induction t with
  | lf => intro x hx; simp [Tr.rgt] at hx
  | nd l r ihl ihr =>
    intro x hx
    simp only [Tr.rgt, List.mem_append, List.mem_cons] at hx
    rcases hx with hx | rfl | hx
    · exact .inr (inn_all l x hx)
    · exact .inl rfl
    · exact ihr x hx
theorem lft_all (t : Tr) : ∀ x ∈ t.lft, x = sLL ∨ isNe x = true := by
  induction t with
  | lf => intro x hx; simp [Tr.lft] at hx
  | nd l r ihl ihr =>
    intro x hx
    simp only [Tr.lft, List.mem_append, List.mem_cons] at hx
    rcases hx with hx | rfl | hx
    · exact ihl x hx
    · exact .inl rfl
    · exact .inr (inn_all r x hx)
theorem okC_rgt (l : List ByteArray) (h : ∀ x ∈ l, x = sR ∨ isNe x = true) : okC l := by
  induction l with
  | nil => trivial
  | cons x r ih =>
    refine ⟨.inr (h x List.mem_cons_self), fun _ hm => ?_, ih fun y hy => h y (List.mem_cons_of_mem _ hy)⟩
    rcases h _ (List.mem_cons_of_mem _ hm) with e | e
    · exact absurd e (by decide)
    · rw [isNe_LL] at e; cases e
theorem okC_front (l m : List ByteArray) (h : ∀ x ∈ l, x = sLL ∨ isNe x = true) (hm : okC m) : okC (l ++ m) := by
  induction l with
  | nil => exact hm
  | cons x r ih =>
    refine ⟨?_, fun e => ?_, ih fun y hy => h y (List.mem_cons_of_mem _ hy)⟩
    · rcases h x List.mem_cons_self with e | e
      · exact .inl e
      · exact .inr (.inr e)
    · rcases h x List.mem_cons_self with k | k
      · rw [e] at k; exact absurd k (by decide)
      · rw [e, isNe_R] at k; cases k
theorem okC_raw (t : Tr) : okC t.raw := by
  cases t with
  | lf => trivial
  | nd l r =>
    exact okC_front _ _ (lft_all l) ⟨.inl rfl, fun e => absurd e (by decide), okC_rgt _ (rgt_all r)⟩
theorem kinds_from (t : Tr) : t.kinds = kindsFrom 0 t.raw := by
  have h := okC_raw t
  unfold Tr.kinds
  cases hr : t.raw with
  | nil => rfl
  | cons x r =>
    rw [hr] at h
    show (finF (sL0 :: r)).1 = _
    rw [finF_step, if_neg (by decide), kindsFrom, kindK, if_pos rfl, finF_kinds r h.2.2 1 (by omega)]
end Go.Proofs.YtlcepokenaiggaaGreatDoor

/-! LnP -/
namespace Go.Proofs.YtlcepokenaiggaaGreatDoor

/-- The row of a kind in the table, or -1. -/
def rowK (s : ByteArray) : Int := if s = sR0 then 0 else if s = sRN then 1 else if s = sRI then 2 else if s = sLL then 3 else if s = sI0 then 4 else if s = sIR then 5 else -1
/-- The table, row by row. -/
def tabK : List Int := [0, 2, 2, 1, 1, 3, 2, 2, 2, 1, 1, 3, 2, 2, 2, 1, 3, 3, 1, 1, 1, 2, 2, 2, 1, 1, 3, 2, 2, 4, 3, 3, 3, 2, 4, 4]
def lenO (a b : ByteArray) : Option Int :=
  if a = sL0 ∧ b = sL0 then some 0
  else if rowK a < 0 ∨ rowK b < 0 then none
  else some (tabK.getD ((rowK a).toNat * 6 + (rowK b).toNat) 0)
def lenV (a b : ByteArray) : Int := (lenO a b).getD 0
/-- The sum over the first j carets. -/
def lenU (l m : List ByteArray) : Nat → Int
  | 0 => 0
  | j + 1 => lenU l m j + lenV (l.getD j ⟨#[]⟩) (m.getD j ⟨#[]⟩)
def lenP (p : Pr) : Int := lenU p.1.kinds p.2.kinds p.1.kinds.length

theorem rowK_range (s : ByteArray) : -1 ≤ rowK s ∧ rowK s ≤ 5 := by
  unfold rowK
  repeat' split
  all_goals omega
theorem tabK_range (i : Nat) : 0 ≤ tabK.getD i 0 ∧ tabK.getD i 0 ≤ 4 := by
  by_cases h : i < 36
  · have : ∀ i : Fin 36, 0 ≤ tabK.getD i.1 0 ∧ tabK.getD i.1 0 ≤ 4 := by decide
    exact this ⟨i, h⟩
  · rw [List.getD_eq_getElem?_getD, List.getElem?_eq_none (by show 36 ≤ i; omega)]
    simp
theorem lenO_range {a b : ByteArray} {n : Int} (h : lenO a b = some n) : 0 ≤ n ∧ n ≤ 4 := by
  unfold lenO at h
  split at h
  · cases h; omega
  · split at h
    · cases h
    · cases h; exact tabK_range _
theorem lenV_range (a b : ByteArray) : 0 ≤ lenV a b ∧ lenV a b ≤ 4 := by
  unfold lenV
  cases h : lenO a b with
  | none => simp
  | some n => exact lenO_range h
theorem lenU_range (l m : List ByteArray) : ∀ j, 0 ≤ lenU l m j ∧ lenU l m j ≤ 4 * j := by
  intro j
  induction j with
  | zero => simp [lenU]
  | succ j ih => have := lenV_range (l.getD j ⟨#[]⟩) (m.getD j ⟨#[]⟩); rw [lenU]; omega
theorem lenP_range (p : Pr) : 0 ≤ lenP p ∧ lenP p ≤ 4 * p.1.carets := by
  have := lenU_range p.1.kinds p.2.kinds p.1.kinds.length
  rw [kinds_length] at this
  unfold lenP
  rw [kinds_length]
  exact this
/-- The index in the list of all kinds but L0. -/
theorem rowK_at (s : ByteArray) : (rowK s < 0 → ∀ k ∈ [sR0, sRN, sRI, sLL, sI0, sIR], k ≠ s) ∧ (0 ≤ rowK s → [sR0, sRN, sRI, sLL, sI0, sIR].getD (rowK s).toNat ⟨#[]⟩ = s ∧ ∀ j, j < (rowK s).toNat → [sR0, sRN, sRI, sLL, sI0, sIR].getD j ⟨#[]⟩ ≠ s) := by
  by_cases h0 : s = sR0
  · subst h0
    exact ⟨by decide, fun _ => ⟨by decide, by decide⟩⟩
  by_cases h1 : s = sRN
  · subst h1
    exact ⟨by decide, fun _ => ⟨by decide, by decide⟩⟩
  by_cases h2 : s = sRI
  · subst h2
    exact ⟨by decide, fun _ => ⟨by decide, by decide⟩⟩
  by_cases h3 : s = sLL
  · subst h3
    exact ⟨by decide, fun _ => ⟨by decide, by decide⟩⟩
  by_cases h4 : s = sI0
  · subst h4
    exact ⟨by decide, fun _ => ⟨by decide, by decide⟩⟩
  by_cases h5 : s = sIR
  · subst h5
    exact ⟨by decide, fun _ => ⟨by decide, by decide⟩⟩
  have hr : rowK s = -1 := by simp [rowK, h0, h1, h2, h3, h4, h5]
  rw [hr]
  refine ⟨fun _ k hk e => ?_, fun h => absurd h (by omega)⟩
  simp at hk
  rcases hk with rfl | rfl | rfl | rfl | rfl | rfl
  · exact h0 e.symm
  · exact h1 e.symm
  · exact h2 e.symm
  · exact h3 e.symm
  · exact h4 e.symm
  · exact h5 e.symm
end Go.Proofs.YtlcepokenaiggaaGreatDoor

/-! Lt1 -/
namespace Go.Proofs.YtlcepokenaiggaaGreatDoor
open Go.RowKit

def fourL : List Int := [1, -1, 2, -2]
theorem fourL_get (k : Nat) (h : k < 4) : fourL.getD k 0 ≠ 0 ∧ -2 ≤ fourL.getD k 0 ∧ fourL.getD k 0 ≤ 2 := by
  match k, h with
  | 0, _ => decide
  | 1, _ => decide
  | 2, _ => decide
  | 3, _ => decide
theorem ltP_small {x : Int} (_h0 : x ≠ 0) (h1 : -2 ≤ x) (h2 : x ≤ 2) : okP (ltP x) ∧ (ltP x).1.carets ≤ 3 ∧ (ltP x).2.carets ≤ 3 := by
  have h := ltP_ok x
  have hn : (num x).toNat ≤ 1 := by unfold num; split <;> omega
  have hk := h.1
  unfold okP at hk
  exact ⟨h.1, by omega, by omega⟩
/-- The four letters in a block of their own. -/
def GivesFour (w : World) (e : Ending) (w' : World) : Prop :=
  e = .returned (.slice (some ⟨w.heap.size, 0, none⟩) 4 4) ∧ (∀ k, k < 4 → w'.cell? ⟨w.heap.size, k, none⟩ = some (.int .i64 (fourL.getD k 0))) ∧ w.heap.size < w'.heap.size ∧ Below w.heap.size w w'
theorem four_cells (w : World) (t : TypeId) (j : Nat) (h : j < 4) : (w.alloc (.cells #[.int .i64 1, .int .i64 (-1), .int .i64 2, .int .i64 (-2)] t (0, 0))).cell? ⟨w.heap.size, j, none⟩ = some (.int .i64 (fourL.getD j 0)) := by
  show ((match (w.alloc (.cells #[.int .i64 1, .int .i64 (-1), .int .i64 2, .int .i64 (-2)] t (0, 0))).heap[w.heap.size]? with
    | some (.cells c _ _) => c[j]?
    | _ => none) : Option Value) = _
  rw [heap_alloc_at]
  match j, h with
  | 0, _ => rfl
  | 1, _ => rfl
  | 2, _ => rfl
  | 3, _ => rfl
theorem lnLetters_any (w : World) : Calls Tryz.prog 45 #[] w (GivesFour w) := by
  have hc := four_cells w 3
  have hb := nxAlloc (Below.refl w.heap.size w) (.cells #[.int .i64 1, .int .i64 (-1), .int .i64 2, .int .i64 (-2)] 3 (0, 0))
  go_enter Tryz.func45, Tryz.ntmps45
  go_wp2_with fail
  go_ret
  exact ⟨rfl, hc, by simp, hb⟩
theorem twoLetters_any (w : World) : Calls Tryz.prog 25 #[] w (GivesFour w) := by
  have hc := four_cells w 3
  have hb := nxAlloc (Below.refl w.heap.size w) (.cells #[.int .i64 1, .int .i64 (-1), .int .i64 2, .int .i64 (-2)] 3 (0, 0))
  go_enter Tryz.func25, Tryz.ntmps25
  go_wp2_with fail
  go_ret
  exact ⟨rfl, hc, by simp, hb⟩
set_option maxRecDepth 100000 in
set_option maxHeartbeats 1000000 in
theorem withLetter_any (p : Pr) (x : Int) (w : World) (hok : okP p) (hc : p.1.carets ≤ 30) (h0 : x ≠ 0) (h1 : -2 ≤ x) (h2 : x ≤ 2) :
    Calls Tryz.prog 27 #[.agg #[.string p.1.str, .string p.2.str], .int .i64 x] w (Gives (.agg #[.string (mulP p (ltP x)).1.str, .string (mulP p (ltP x)).2.str]) w) := by
  obtain ⟨k1, k2, k3⟩ := ltP_small h0 h1 h2
  have hL : ∀ w, Calls Tryz.prog 51 #[.int .i64 x] w (Gives (.tuple #[.agg #[.string (ltP x).1.str, .string (ltP x).2.str], .bool true]) w) := fun w => by
    have := pairOfLetter_any x w h0 (by omega) (by omega)
    unfold ltO at this
    rw [if_pos (by unfold num; split <;> omega)] at this
    exact this
  have hP := fun w => product_any p (ltP x) w hok k1 hc (by omega)
  generalize (mulP p (ltP x)).1.str = C at *
  generalize (mulP p (ltP x)).2.str = D at *
  generalize (ltP x).1.str = A at *
  generalize (ltP x).2.str = B at *
  clear h0 h1 h2 k1 k2 k3
  go_enter Tryz.func27, Tryz.ntmps27
  go_wp2_with fail
  have hb0 : Below w.heap.size w ((w.alloc (.cells #[.string p.1.str, .string p.2.str] 28 (0, 0))).alloc (.cells #[.string ⟨#[]⟩, .string ⟨#[]⟩] 28 (0, 0))) := nxAlloc (nxAlloc (Below.refl _ _) _) _
  have hx0 := heap_keep (nxAlloc (Below.refl _ _) (.cells #[.string ⟨#[]⟩, .string ⟨#[]⟩] 28 (0, 0))) (heap_alloc_at w (.cells #[.string p.1.str, .string p.2.str] 28 (0, 0)))
  have hx1 := heap_alloc_at (w.alloc (.cells #[.string p.1.str, .string p.2.str] 28 (0, 0))) (.cells #[.string ⟨#[]⟩, .string ⟨#[]⟩] 28 (0, 0))
  generalize ((w.alloc (.cells #[.string p.1.str, .string p.2.str] 28 (0, 0))).alloc (.cells #[.string ⟨#[]⟩, .string ⟨#[]⟩] 28 (0, 0))) = w0 at *
  have e1 : (w.alloc (.cells #[.string p.1.str, .string p.2.str] 28 (0, 0))).heap.size = w.heap.size + 1 := by simp
  rw [e1] at hx1
  clear e1
  obtain ⟨hx0a, hx0b, hx0c⟩ := two_facts hx0
  obtain ⟨hx0f, hx0g⟩ := two_frozen hx0
  obtain ⟨hx1a, hx1b, hx1c⟩ := two_facts hx1
  obtain ⟨hx1f, hx1g⟩ := two_frozen hx1
  refine (hL _).mono ?_; rintro e w1 ⟨rfl, hb1⟩
  have hbw1 := nx hb0 hb1
  replace hx0 := heap_keep hb1 hx0
  replace hx1 := heap_keep hb1 hx1
  clear hx0a hx0b hx0c hx0f hx0g
  obtain ⟨hx0a, hx0b, hx0c⟩ := two_facts hx0
  obtain ⟨hx0f, hx0g⟩ := two_frozen hx0
  clear hx1a hx1b hx1c hx1f hx1g
  obtain ⟨hx1a, hx1b, hx1c⟩ := two_facts hx1
  obtain ⟨hx1f, hx1g⟩ := two_frozen hx1
  clear hb1 hb0
  go_wp2_with fail
  have hbw2 := nxAlloc hbw1 (.cells #[.string A, .string B] 28 (0, 0))
  replace hx0 := heap_keep (nxAlloc (Below.refl _ _) (.cells #[.string A, .string B] 28 (0, 0))) hx0
  replace hx1 := heap_keep (nxAlloc (Below.refl _ _) (.cells #[.string A, .string B] 28 (0, 0))) hx1
  have hy2 := heap_alloc_at w1 (.cells #[.string A, .string B] 28 (0, 0))
  generalize w1.alloc (.cells #[.string A, .string B] 28 (0, 0)) = w2 at *
  clear hbw1
  clear hx0a hx0b hx0c hx0f hx0g
  obtain ⟨hx0a, hx0b, hx0c⟩ := two_facts hx0
  obtain ⟨hx0f, hx0g⟩ := two_frozen hx0
  clear hx1a hx1b hx1c hx1f hx1g
  obtain ⟨hx1a, hx1b, hx1c⟩ := two_facts hx1
  obtain ⟨hx1f, hx1g⟩ := two_frozen hx1
  obtain ⟨hy2a, hy2b, hy2c⟩ := two_facts hy2
  obtain ⟨hy2f, hy2g⟩ := two_frozen hy2
  go_wp2_with fail
  refine (hP _).mono ?_; rintro e w3 ⟨rfl, hb3⟩
  have hbw3 := nx hbw2 hb3
  replace hx0 := heap_keep hb3 hx0
  replace hx1 := heap_keep hb3 hx1
  replace hy2 := heap_keep hb3 hy2
  clear hx0a hx0b hx0c hx0f hx0g
  obtain ⟨hx0a, hx0b, hx0c⟩ := two_facts hx0
  obtain ⟨hx0f, hx0g⟩ := two_frozen hx0
  clear hx1a hx1b hx1c hx1f hx1g
  obtain ⟨hx1a, hx1b, hx1c⟩ := two_facts hx1
  obtain ⟨hx1f, hx1g⟩ := two_frozen hx1
  clear hy2a hy2b hy2c hy2f hy2g
  obtain ⟨hy2a, hy2b, hy2c⟩ := two_facts hy2
  obtain ⟨hy2f, hy2g⟩ := two_frozen hy2
  clear hb3 hbw2
  go_wp2_with fail
  obtain ⟨q1, q2⟩ := two_cells (set_two (.string C) (.string D) hx1)
  refine bodyPost_ret (v := .agg #[.string C, .string D]) (by simp [q1, q2, results, Tryz.results27, go_sem]) rfl ⟨rfl, ?_⟩
  exact (hbw3.setCell (by show w.heap.size ≤ w.heap.size + 1; omega) _).setCell (by show w.heap.size ≤ w.heap.size + 1; omega) _
end Go.Proofs.YtlcepokenaiggaaGreatDoor

/-! Src -/
namespace Go.Proofs.YtlcepokenaiggaaGreatDoor
open Go.RowKit

theorem CellsS.form0 {b1 : Nat} {w : World} {v : Value} {xs : List ByteArray} (h : CellsS b1 w v xs) :
    ∃ oa cap, v = .slice oa xs.length cap ∧ xs.length ≤ cap ∧ cap ≤ maxLen ∧ ∀ i, i < xs.length → ∃ g, oa = some ⟨g, 0, none⟩ ∧ b1 ≤ g ∧ g < w.heap.size ∧ w.cell? ⟨g, i, none⟩ = some (.string (xs.getD i ⟨#[]⟩)) := by
  rcases h with ⟨rfl, rfl⟩ | ⟨g, cap, rfl, h1, h2, h3, h4, h5, _⟩
  · exact ⟨none, 0, rfl, Nat.le_refl _, Nat.zero_le _, fun i hi => by simp at hi⟩
  · exact ⟨some ⟨g, 0, none⟩, cap, rfl, h3, h4, fun i hi => ⟨g, rfl, h1, h2, h5 i hi⟩⟩

theorem CellsS.at1 {b1 : Nat} {w : World} {g n cap : Nat} {ss : List ByteArray} (h : CellsS b1 w (.slice (some ⟨g, 0, none⟩) n cap) ss) {i : Nat} {t : ByteArray} (hi : ss[i]? = some t) : w.cell? ⟨g, i, none⟩ = some (.string t) := by
  rcases h with ⟨h, _⟩ | ⟨g', cap', h, _, _, _, _, hc, _⟩
  · cases h
  · cases h
    have hl := (List.getElem?_eq_some_iff.1 hi).1
    rw [hc i hl]
    simp [List.getD_eq_getElem?_getD, hi]

/-- A slice value from which the cells ys can be read. -/
def SrcV (w : World) (u : Value) (ys : List Value) : Prop :=
  (u = .slice none 0 0 ∧ ys = []) ∨ ∃ ad c, u = .slice (some ad) ys.length c ∧ ∀ j x, ys[j]? = some x → w.cell? (ad.add j) = some x

theorem SrcV.keep {w w' : World} {u : Value} {ys : List Value} (h : SrcV w u ys) (hb : Below w.heap.size w w') : SrcV w' u ys := by
  rcases h with h | ⟨ad, c, h1, h2⟩
  · exact .inl h
  · refine .inr ⟨ad, c, h1, fun j x hj => ?_⟩
    have hc := h2 j x hj
    exact (hb.cell (World.block_lt_of_cell? w _ hc)).trans hc

theorem wpList_appSrc {P : Program} {w : World} {ops : Array Oper} {rest : List Oper} {o : Oper} {a : Act} {Q : Exit → Act → World → Prop} (hgd : o.guard = none) (s x : Operand) (t : TypeId)
    (ho : o.op = .call { callee := .builtin .append, args := #[s, x], argTypes := #[t, t] })
    (base : Nat) (e : TypeId) (i : TypeInfo) (z : Value) (bytes : Nat) (ht : P.underlying t = some (.slice e)) (hi : P.info? e = some i) (hz : i.zero = some z)
    (hsize : i.size = 1) (hby : i.bytes = bytes) (hzs : z.cells.size = 1)
    (v : Value) (n : Nat) (xs : List Value) (hs : a.eval s = v) (hown : w.ownsRow base e 1 v n xs)
    (u : Value) (ys : List Value) (hx : a.eval x = u) (hsrc : SrcV w u ys) (h1 : ∀ y ∈ ys, y.oneCell' = true)
    (h63 : n + ys.length ≤ maxLen) (hbytes : (n + ys.length) * bytes ≤ 140737488355328) (hbase : base ≤ w.heap.size)
    (h : ∀ v' w', w'.ownsRow base e 1 v' (n + ys.length) (xs ++ ys) → Below base w w' → (v' = .slice none 0 0 → v = .slice none 0 0) → wpList P ops Q rest (a.put o.dst v') w') : wpList P ops Q (o :: rest) a w := by
  rcases hsrc with ⟨rfl, rfl⟩ | ⟨ad, c, rfl, hc⟩
  · refine wpList_append_own_none hgd s x t ho base e i 1 ht hi v n xs hs hown hx ?_
    exact h v w (by simpa using hown) (Below.refl _ _) id
  · refine wpList_append_own w hgd s x t ho base e i z 1 bytes ht hi hz hsize hby hzs (by decide) v n xs hs hown ad ys.length c ys hx (by simp) hc h1 h63 hbytes hbase ?_
    intro v' w' hown' hg hn
    exact h v' w' hown' ((Below.refl base w).grown hg hbase (fun k hk => ownsRow_ge hown k hk)) (fun e => (hn.1 e).1)

theorem row_shape {w : World} {base : Nat} {e : TypeId} {size : Nat} {v : Value} {n : Nat} {xs : List Value} (h : w.ownsRow base e size v n xs) (hn : v ≠ .slice none 0 0) : ∃ g cap, v = .slice (some ⟨g, 0, none⟩) n cap ∧ base ≤ g := by
  rcases h.2 with ⟨hv, _⟩ | ⟨g, cap, cur, hv, hb, _⟩
  · exact absurd hv hn
  · exact ⟨g, cap, hv, hb⟩

/-- An empty slice in a block of its own. -/
theorem ownsRow_empty (w : World) (e : TypeId) : (w.alloc (.cells #[] e (0, 0))).ownsRow w.heap.size e 1 (.slice (some ⟨w.heap.size, 0, none⟩) 0 0) 0 [] :=
  World.ownsRow_made w #[] 0 (Nat.le_refl _) (Nat.zero_le _) rfl

/-- The parts of a slice of the call's own, as sources. -/
theorem src_take {base : Nat} {w : World} {e : TypeId} {g n cap : Nat} {xs : List Value} (h : w.ownsRow base e 1 (.slice (some ⟨g, 0, none⟩) n cap) n xs) (k : Nat) (hk : k ≤ n) (c : Nat) : SrcV w (.slice (some ⟨g, 0, none⟩) k c) (xs.take k) := by
  have hl := h.1
  refine .inr ⟨_, c, by rw [List.length_take]; congr 1; omega, fun j x hj => ?_⟩
  have hj' := (List.getElem?_eq_some_iff.1 hj).1
  rw [List.length_take] at hj'
  rw [List.getElem?_take_of_lt (by omega)] at hj
  rw [addr_add, World.ownsRow.cellAt h j (by omega)]
  exact hj
theorem src_drop {base : Nat} {w : World} {e : TypeId} {g n cap : Nat} {xs : List Value} (h : w.ownsRow base e 1 (.slice (some ⟨g, 0, none⟩) n cap) n xs) (k : Nat) (hk : k ≤ n) (c : Nat) : SrcV w (.slice (some ⟨g, k, none⟩) (n - k) c) (xs.drop k) := by
  have hl := h.1
  refine .inr ⟨_, c, by rw [List.length_drop]; congr 1; omega, fun j x hj => ?_⟩
  have hj' := (List.getElem?_eq_some_iff.1 hj).1
  rw [List.length_drop] at hj'
  rw [List.getElem?_drop] at hj
  have ea : (⟨g, k, none⟩ : Addr).add j = ⟨g, k + j, none⟩ := by
    unfold Addr.add
    split
    · next h0 => rw [h0]; simp
    · rfl
  rw [ea, World.ownsRow.cellAt h (k + j) (by omega)]
  exact hj
theorem src_cells {b1 : Nat} {w : World} {g n cap : Nat} {xs : List ByteArray} (h : CellsS b1 w (.slice (some ⟨g, 0, none⟩) n cap) xs) (k : Nat) (hk : k ≤ xs.length) (c : Nat) : SrcV w (.slice (some ⟨g, 0, none⟩) k c) ((xs.take k).map Value.string) := by
  rcases h with ⟨h, _⟩ | ⟨g', cap', h, _, _, _, _, hc, _⟩
  · cases h
  · cases h
    refine .inr ⟨_, c, by rw [List.length_map, List.length_take]; congr 1; omega, fun j x hj => ?_⟩
    have hj' := (List.getElem?_eq_some_iff.1 hj).1
    rw [List.length_map, List.length_take] at hj'
    rw [List.getElem?_map, List.getElem?_take_of_lt (by omega), List.getElem?_eq_getElem (by omega)] at hj
    have hx := hc j (by omega)
    rw [List.getD_eq_getElem?_getD, List.getElem?_eq_getElem (by omega)] at hx
    rw [addr_add, hx]
    exact hj
theorem src_end {w : World} (a : Option Addr) (c : Nat) (h : a = none → c = 0) : SrcV w (.slice a 0 c) [] := by
  cases a with
  | none => rw [h rfl]; exact .inl ⟨rfl, rfl⟩
  | some ad => exact .inr ⟨ad, c, rfl, fun j x hj => by simp at hj⟩
end Go.Proofs.YtlcepokenaiggaaGreatDoor

/-! Ln3 -/
namespace Go.Proofs.YtlcepokenaiggaaGreatDoor
open Go.RowKit

def GivesS (ss : List ByteArray) (w : World) (e : Ending) (w' : World) : Prop :=
  ∃ v, OwnS w.heap.size w' v ss ∧ Below w.heap.size w w' ∧ e = .returned v
theorem OwnS.src {base : Nat} {w : World} {v : Value} {L : List ByteArray} (h : OwnS base w v L) : SrcV w v (L.map Value.string) := by
  rcases h.cells with ⟨rfl, rfl⟩ | ⟨g, cap, rfl, _, _, _, _, hx, _⟩
  · exact .inl ⟨rfl, rfl⟩
  · refine .inr ⟨⟨g, 0, none⟩, cap, by simp, fun j x hj => ?_⟩
    have hj' : j < L.length := by have := (List.getElem?_eq_some_iff.1 hj).1; simpa using this
    rw [addr_add, hx j hj', ← hj]
    simp [hj']
theorem one_strs (L : List ByteArray) : ∀ y ∈ L.map Value.string, y.oneCell' = true := by
  intro y hy
  rw [List.mem_map] at hy
  obtain ⟨k, _, rfl⟩ := hy
  rfl
theorem one_str1 (m : ByteArray) : ∀ u ∈ [Value.string m], u.oneCell' = true := by
  intro u hu
  simp at hu
  subst hu
  rfl
theorem OwnS.snoc1 {base : Nat} {w : World} {v : Value} {xs : List ByteArray} {m : ByteArray} (h : w.ownsRow base 9 1 v (xs.length + 1) (xs.map Value.string ++ [Value.string m])) : OwnS base w v (xs ++ [m]) := by
  unfold OwnS
  rw [List.length_append, List.map_append]
  exact h
theorem OwnS.app1 {base : Nat} {w : World} {v : Value} {A B : List ByteArray} (h : w.ownsRow base 9 1 v (A.length + (B.map Value.string).length) (A.map Value.string ++ B.map Value.string)) : OwnS base w v (A ++ B) := by
  unfold OwnS
  rw [List.length_append, List.map_append]
  rw [List.length_map] at h
  exact h

set_option maxRecDepth 100000 in
set_option maxHeartbeats 2000000 in
theorem lnInner_any (t : Tr) : ∀ (w : World), t.carets ≤ 60 →
    Calls Tryz.prog 112 #[.string t.str] w (GivesS t.inn w) := by
  obtain ⟨i0, hi, hz0, hz1, hz2⟩ := info_parts info_str
  induction t with
  | lf =>
    intro w ht
    go_enter Tryz.func112, Tryz.ntmps112
    go_wp2_with fail
    refine (trLeaf_any .lf _).mono ?_; rintro e w1 ⟨rfl, rfl⟩
    simp only [Tr.isLf]
    go_wp2_with fail
    go_ret
    exact ⟨_, OwnS.nil _ _, Below.refl _ _, rfl⟩
  | nd l r ihl ihr =>
    intro w ht
    have ht' : l.carets + r.carets + 1 ≤ 60 := ht
    have jl := fun w => ihl w (by omega)
    have jr := fun w => ihr w (by omega)
    have ll : (l.inn).length = l.carets := inn_length l
    have lr : (r.inn).length = r.carets := inn_length r
    obtain ⟨A, hA⟩ : ∃ A, A = l.inn := ⟨_, rfl⟩
    obtain ⟨B, hB⟩ : ∃ B, B = r.inn := ⟨_, rfl⟩
    have hC : (Tr.nd l r).inn = (A ++ [inK r.isLf]) ++ B := by rw [hA, hB]; simp [Tr.inn]
    rw [← hA] at ll jl
    rw [← hB] at lr jr
    rw [hC]
    clear ihl ihr hA hB hC
    cases hk : r.isLf with
    | true =>
      show Calls _ _ _ _ (GivesS ((A ++ [(⟨#[73, 48]⟩ : ByteArray)]) ++ B) w)
      go_enter Tryz.func112, Tryz.ntmps112
      go_wp2_with fail
      refine (trLeaf_any (.nd l r) _).mono ?_; rintro e w1 ⟨rfl, rfl⟩
      simp only [Tr.isLf]
      go_wp2_with fail
      refine (trSides_any l r _ (by omega)).mono ?_; rintro e w2 ⟨rfl, hb2⟩
      go_wp2_with fail
      refine (trLeaf_any r _).mono ?_; rintro e w1 ⟨rfl, rfl⟩
      simp only [hk]
      go_wp2_with fail
      refine (jl _).mono ?_; rintro e w3 ⟨v3, own3, hb3, rfl⟩
      have hs3 := hb3.size
      go_wp2_with (at_builtin; refine wpList_append_own _ rfl _ _ 58 rfl w2.heap.size 9 i0 (.string ⟨#[]⟩) 1 16 Tryz.underlying58 hi hz0 hz1 hz2 rfl (by decide) _ _ _ rfl (own3.alloc _) ⟨w3.heap.size, 0, none⟩ 1 1 [.string (⟨#[73, 48]⟩ : ByteArray)] rfl rfl (new1 _ _ _) (one_str1 _) (by unfold maxLen; omega) (by omega) (by simp; omega) ?_; intro v' w9 hown' hgrow hnn)
      have hbw9 := (nxAlloc hb3 (.cells #[.string (⟨#[73, 48]⟩ : ByteArray)] 9 (0, 0))).grown hgrow (by simp; omega) (fun k hk => ownsRow_ge own3 k hk)
      have own9 := OwnS.snoc1 hown'
      clear own3 hown' hgrow hnn hb3
      go_wp2_with fail
      refine (jr _).mono ?_; rintro e w4 ⟨v4, own4, hb4, rfl⟩
      have hbw4 := nx hbw9 hb4
      have own94 := own9.keep hb4
      have hs4 := hbw4.size
      have e94 : (A ++ [(⟨#[73, 48]⟩ : ByteArray)]).length = A.length + 1 := by simp
      unfold OwnS at own94
      rw [e94] at own94
      clear own9 hbw9 hb4
      go_wp2_with (at_builtin; refine wpList_appSrc rfl _ _ 58 rfl w2.heap.size 9 i0 (.string ⟨#[]⟩) 16 Tryz.underlying58 hi hz0 hz1 hz2 rfl _ _ _ rfl own94 _ _ rfl own4.src (one_strs _) (by rw [List.length_map]; unfold maxLen; omega) (by rw [List.length_map]; omega) hs4 ?_; intro v8 w8 hown8 hb8 hnn8)
      have hbw8 := hbw4.trans hb8
      rw [← e94] at hown8
      have own8 := OwnS.app1 hown8
      clear own94 hown8 hnn8 own4 hb8
      go_wp2_with fail
      go_ret
      exact ⟨_, own8.mono hb2.size, nx hb2 hbw8, rfl⟩
    | false =>
      show Calls _ _ _ _ (GivesS ((A ++ [(⟨#[73, 82]⟩ : ByteArray)]) ++ B) w)
      go_enter Tryz.func112, Tryz.ntmps112
      go_wp2_with fail
      refine (trLeaf_any (.nd l r) _).mono ?_; rintro e w1 ⟨rfl, rfl⟩
      simp only [Tr.isLf]
      go_wp2_with fail
      refine (trSides_any l r _ (by omega)).mono ?_; rintro e w2 ⟨rfl, hb2⟩
      go_wp2_with fail
      refine (trLeaf_any r _).mono ?_; rintro e w1 ⟨rfl, rfl⟩
      simp only [hk]
      go_wp2_with fail
      refine (jl _).mono ?_; rintro e w3 ⟨v3, own3, hb3, rfl⟩
      have hs3 := hb3.size
      go_wp2_with (at_builtin; refine wpList_append_own _ rfl _ _ 58 rfl w2.heap.size 9 i0 (.string ⟨#[]⟩) 1 16 Tryz.underlying58 hi hz0 hz1 hz2 rfl (by decide) _ _ _ rfl (own3.alloc _) ⟨w3.heap.size, 0, none⟩ 1 1 [.string (⟨#[73, 82]⟩ : ByteArray)] rfl rfl (new1 _ _ _) (one_str1 _) (by unfold maxLen; omega) (by omega) (by simp; omega) ?_; intro v' w9 hown' hgrow hnn)
      have hbw9 := (nxAlloc hb3 (.cells #[.string (⟨#[73, 82]⟩ : ByteArray)] 9 (0, 0))).grown hgrow (by simp; omega) (fun k hk => ownsRow_ge own3 k hk)
      have own9 := OwnS.snoc1 hown'
      clear own3 hown' hgrow hnn hb3
      go_wp2_with fail
      refine (jr _).mono ?_; rintro e w4 ⟨v4, own4, hb4, rfl⟩
      have hbw4 := nx hbw9 hb4
      have own94 := own9.keep hb4
      have hs4 := hbw4.size
      have e94 : (A ++ [(⟨#[73, 82]⟩ : ByteArray)]).length = A.length + 1 := by simp
      unfold OwnS at own94
      rw [e94] at own94
      clear own9 hbw9 hb4
      go_wp2_with (at_builtin; refine wpList_appSrc rfl _ _ 58 rfl w2.heap.size 9 i0 (.string ⟨#[]⟩) 16 Tryz.underlying58 hi hz0 hz1 hz2 rfl _ _ _ rfl own94 _ _ rfl own4.src (one_strs _) (by rw [List.length_map]; unfold maxLen; omega) (by rw [List.length_map]; omega) hs4 ?_; intro v8 w8 hown8 hb8 hnn8)
      have hbw8 := hbw4.trans hb8
      rw [← e94] at hown8
      have own8 := OwnS.app1 hown8
      clear own94 hown8 hnn8 own4 hb8
      go_wp2_with fail
      go_ret
      exact ⟨_, own8.mono hb2.size, nx hb2 hbw8, rfl⟩

set_option maxRecDepth 100000 in
set_option maxHeartbeats 2000000 in
theorem lnLeft_any (t : Tr) : ∀ (w : World), t.carets ≤ 60 →
    Calls Tryz.prog 85 #[.string t.str] w (GivesS t.lft w) := by
  obtain ⟨i0, hi, hz0, hz1, hz2⟩ := info_parts info_str
  induction t with
  | lf =>
    intro w ht
    go_enter Tryz.func85, Tryz.ntmps85
    go_wp2_with fail
    refine (trLeaf_any .lf _).mono ?_; rintro e w1 ⟨rfl, rfl⟩
    simp only [Tr.isLf]
    go_wp2_with fail
    go_ret
    exact ⟨_, OwnS.nil _ _, Below.refl _ _, rfl⟩
  | nd l r ihl ihr =>
    intro w ht
    have ht' : l.carets + r.carets + 1 ≤ 60 := ht
    have jl := fun w => ihl w (by omega)
    have jr := fun w => lnInner_any r w (by omega)
    have ll : (l.lft).length = l.carets := lft_length l
    have lr : (r.inn).length = r.carets := inn_length r
    obtain ⟨A, hA⟩ : ∃ A, A = l.lft := ⟨_, rfl⟩
    obtain ⟨B, hB⟩ : ∃ B, B = r.inn := ⟨_, rfl⟩
    have hC : (Tr.nd l r).lft = (A ++ [sLL]) ++ B := by rw [hA, hB]; simp [Tr.lft]
    rw [← hA] at ll jl
    rw [← hB] at lr jr
    rw [hC]
    clear ihl ihr hA hB hC
    show Calls _ _ _ _ (GivesS ((A ++ [(⟨#[76, 76]⟩ : ByteArray)]) ++ B) w)
    go_enter Tryz.func85, Tryz.ntmps85
    go_wp2_with fail
    refine (trLeaf_any (.nd l r) _).mono ?_; rintro e w1 ⟨rfl, rfl⟩
    simp only [Tr.isLf]
    go_wp2_with fail
    refine (trSides_any l r _ (by omega)).mono ?_; rintro e w2 ⟨rfl, hb2⟩
    go_wp2_with fail
    refine (jl _).mono ?_; rintro e w3 ⟨v3, own3, hb3, rfl⟩
    have hs3 := hb3.size
    go_wp2_with (at_builtin; refine wpList_append_own _ rfl _ _ 58 rfl w2.heap.size 9 i0 (.string ⟨#[]⟩) 1 16 Tryz.underlying58 hi hz0 hz1 hz2 rfl (by decide) _ _ _ rfl (own3.alloc _) ⟨w3.heap.size, 0, none⟩ 1 1 [.string (⟨#[76, 76]⟩ : ByteArray)] rfl rfl (new1 _ _ _) (one_str1 _) (by unfold maxLen; omega) (by omega) (by simp; omega) ?_; intro v' w9 hown' hgrow hnn)
    have hbw9 := (nxAlloc hb3 (.cells #[.string (⟨#[76, 76]⟩ : ByteArray)] 9 (0, 0))).grown hgrow (by simp; omega) (fun k hk => ownsRow_ge own3 k hk)
    have own9 := OwnS.snoc1 hown'
    clear own3 hown' hgrow hnn hb3
    go_wp2_with fail
    refine (jr _).mono ?_; rintro e w4 ⟨v4, own4, hb4, rfl⟩
    have hbw4 := nx hbw9 hb4
    have own94 := own9.keep hb4
    have hs4 := hbw4.size
    have e94 : (A ++ [(⟨#[76, 76]⟩ : ByteArray)]).length = A.length + 1 := by simp
    unfold OwnS at own94
    rw [e94] at own94
    clear own9 hbw9 hb4
    go_wp2_with (at_builtin; refine wpList_appSrc rfl _ _ 58 rfl w2.heap.size 9 i0 (.string ⟨#[]⟩) 16 Tryz.underlying58 hi hz0 hz1 hz2 rfl _ _ _ rfl own94 _ _ rfl own4.src (one_strs _) (by rw [List.length_map]; unfold maxLen; omega) (by rw [List.length_map]; omega) hs4 ?_; intro v8 w8 hown8 hb8 hnn8)
    have hbw8 := hbw4.trans hb8
    rw [← e94] at hown8
    have own8 := OwnS.app1 hown8
    clear own94 hown8 hnn8 own4 hb8
    go_wp2_with fail
    go_ret
    exact ⟨_, own8.mono hb2.size, nx hb2 hbw8, rfl⟩

set_option maxRecDepth 100000 in
set_option maxHeartbeats 2000000 in
theorem lnRight_any (t : Tr) : ∀ (w : World), t.carets ≤ 60 →
    Calls Tryz.prog 86 #[.string t.str] w (GivesS t.rgt w) := by
  obtain ⟨i0, hi, hz0, hz1, hz2⟩ := info_parts info_str
  induction t with
  | lf =>
    intro w ht
    go_enter Tryz.func86, Tryz.ntmps86
    go_wp2_with fail
    refine (trLeaf_any .lf _).mono ?_; rintro e w1 ⟨rfl, rfl⟩
    simp only [Tr.isLf]
    go_wp2_with fail
    go_ret
    exact ⟨_, OwnS.nil _ _, Below.refl _ _, rfl⟩
  | nd l r ihl ihr =>
    intro w ht
    have ht' : l.carets + r.carets + 1 ≤ 60 := ht
    have jl := fun w => lnInner_any l w (by omega)
    have jr := fun w => ihr w (by omega)
    have ll : (l.inn).length = l.carets := inn_length l
    have lr : (r.rgt).length = r.carets := rgt_length r
    obtain ⟨A, hA⟩ : ∃ A, A = l.inn := ⟨_, rfl⟩
    obtain ⟨B, hB⟩ : ∃ B, B = r.rgt := ⟨_, rfl⟩
    have hC : (Tr.nd l r).rgt = (A ++ [sR]) ++ B := by rw [hA, hB]; simp [Tr.rgt]
    rw [← hA] at ll jl
    rw [← hB] at lr jr
    rw [hC]
    clear ihl ihr hA hB hC
    show Calls _ _ _ _ (GivesS ((A ++ [(⟨#[82]⟩ : ByteArray)]) ++ B) w)
    go_enter Tryz.func86, Tryz.ntmps86
    go_wp2_with fail
    refine (trLeaf_any (.nd l r) _).mono ?_; rintro e w1 ⟨rfl, rfl⟩
    simp only [Tr.isLf]
    go_wp2_with fail
    refine (trSides_any l r _ (by omega)).mono ?_; rintro e w2 ⟨rfl, hb2⟩
    go_wp2_with fail
    refine (jl _).mono ?_; rintro e w3 ⟨v3, own3, hb3, rfl⟩
    have hs3 := hb3.size
    go_wp2_with (at_builtin; refine wpList_append_own _ rfl _ _ 58 rfl w2.heap.size 9 i0 (.string ⟨#[]⟩) 1 16 Tryz.underlying58 hi hz0 hz1 hz2 rfl (by decide) _ _ _ rfl (own3.alloc _) ⟨w3.heap.size, 0, none⟩ 1 1 [.string (⟨#[82]⟩ : ByteArray)] rfl rfl (new1 _ _ _) (one_str1 _) (by unfold maxLen; omega) (by omega) (by simp; omega) ?_; intro v' w9 hown' hgrow hnn)
    have hbw9 := (nxAlloc hb3 (.cells #[.string (⟨#[82]⟩ : ByteArray)] 9 (0, 0))).grown hgrow (by simp; omega) (fun k hk => ownsRow_ge own3 k hk)
    have own9 := OwnS.snoc1 hown'
    clear own3 hown' hgrow hnn hb3
    go_wp2_with fail
    refine (jr _).mono ?_; rintro e w4 ⟨v4, own4, hb4, rfl⟩
    have hbw4 := nx hbw9 hb4
    have own94 := own9.keep hb4
    have hs4 := hbw4.size
    have e94 : (A ++ [(⟨#[82]⟩ : ByteArray)]).length = A.length + 1 := by simp
    unfold OwnS at own94
    rw [e94] at own94
    clear own9 hbw9 hb4
    go_wp2_with (at_builtin; refine wpList_appSrc rfl _ _ 58 rfl w2.heap.size 9 i0 (.string ⟨#[]⟩) 16 Tryz.underlying58 hi hz0 hz1 hz2 rfl _ _ _ rfl own94 _ _ rfl own4.src (one_strs _) (by rw [List.length_map]; unfold maxLen; omega) (by rw [List.length_map]; omega) hs4 ?_; intro v8 w8 hown8 hb8 hnn8)
    have hbw8 := hbw4.trans hb8
    rw [← e94] at hown8
    have own8 := OwnS.app1 hown8
    clear own94 hown8 hnn8 own4 hb8
    go_wp2_with fail
    go_ret
    exact ⟨_, own8.mono hb2.size, nx hb2 hbw8, rfl⟩
end Go.Proofs.YtlcepokenaiggaaGreatDoor

/-! Mark -/
namespace Go.Proofs.YtlcepokenaiggaaGreatDoor
open Go.RowKit

/-- One byte as a text. -/
def oneB (c : Int) : ByteArray := strOfNums [c]
theorem oneB_size (c : Int) : (oneB c).size = 1 := rfl

/-- 'string([]byte{c})'. -/
theorem conv_one (w : World) (c : Int) : (convert 112 9 (.slice (some ⟨w.heap.size, 0, none⟩) 1 1)).run Tryz.prog (w.alloc (.cells #[.int .u8 c] 5)) = .ok (.string (oneB c)) (w.alloc (.cells #[.int .u8 c] 5)) := by
  refine run_convert_bytes_arg _ 112 5 Tryz.underlying112 Tryz.underlying5 w.heap.size 0 1 1 [c] rfl ?_ 9 Tryz.underlying9
  intro i hi
  obtain rfl : i = 0 := by omega
  have : (w.alloc (.cells #[.int .u8 c] 5)).heap[w.heap.size]? = some (.cells #[.int .u8 c] 5) := by
    show (w.heap.push _)[w.heap.size]? = _
    simp
  exact cell_of_one this

/-- The digits of a number ahead of a text. -/
def digs (j : Nat) (acc : ByteArray) : ByteArray := if 0 < j then digs (j / 10) (oneB (48 + (j : Int) % 10) ++ acc) else acc
termination_by j
decreasing_by omega

def markT (k : Nat) : ByteArray := ⟨#[109]⟩ ++ digs k ⟨#[]⟩

end Go.Proofs.YtlcepokenaiggaaGreatDoor

/-! TailS -/
namespace Go.Proofs.YtlcepokenaiggaaGreatDoor
open Go.RowKit

theorem CellsS.len {base : Nat} {w : World} {v : Value} {ss : List ByteArray} (h : CellsS base w v ss) : (ss.length : Int) ≤ 9223372036854775807 := by
  rcases h with ⟨_, rfl⟩ | ⟨g, cap, _, _, _, h1, h2, _⟩
  · simp
  · unfold maxLen at h2; omega

/-- The marks from k on: n texts. -/
def marksS (k n : Nat) : List ByteArray := (List.range n).map fun i => markT (k + i)
theorem marksS_length (k n : Nat) : (marksS k n).length = n := by simp [marksS]
theorem marksS_getD (k : Nat) {n i : Nat} (h : i < n) : (marksS k n).getD i ⟨#[]⟩ = markT (k + i) := by simp [marksS, h]

theorem CellsS.keep {base : Nat} {w w' : World} {v : Value} {ss : List ByteArray} (h : CellsS base w v ss) (hb : Below w.heap.size w w') : CellsS base w' v ss := by
  rcases h with h | ⟨g, cap, h1, h2, h3, h4, h5, h6, h7⟩
  · exact .inl h
  · exact .inr ⟨g, cap, h1, h2, Nat.lt_of_lt_of_le h3 hb.size, h4, h5, fun i hi => (hb.cell (p := ⟨g, i, none⟩) h3).trans (h6 i hi), fun i => (hb.frozen (p := ⟨g, i, none⟩) h3).trans (h7 i)⟩

theorem marksS_set (k : Nat) (xs : List ByteArray) (j : Nat) (h : j < xs.length) : (marksS k j ++ xs.drop j).set j (markT (k + j)) = marksS k (j + 1) ++ xs.drop (j + 1) := by
  have hm := marksS_length k j
  have e1 : marksS k (j + 1) = marksS k j ++ [markT (k + j)] := by simp [marksS, List.range_succ]
  rw [List.set_append_right _ _ (by omega), hm, Nat.sub_self, e1, List.append_assoc]
  congr 1
  rw [List.drop_eq_getElem_cons h]
  rfl

theorem OwnS.set {base : Nat} {w : World} {g cap : Nat} {xs : List ByteArray} {n : Nat} (hn : xs.length = n) (h : OwnS base w (.slice (some ⟨g, 0, none⟩) n cap) xs) (j : Nat) (m : ByteArray) :
    OwnS base (w.setCell ⟨g, j, none⟩ (.string m)) (.slice (some ⟨g, 0, none⟩) n cap) (xs.set j m) := by
  unfold OwnS at *
  subst hn
  rw [List.length_set, List.map_set]
  exact (World.ownsRow.stored h j _).1

/-- A call that hands back a number, and leaves the slice v with other texts. -/
def MarkedS (base : Nat) (r : Int) (v : Value) (xs : List ByteArray) (w : World) (e : Ending) (w' : World) : Prop := e = .returned (.int .i64 r) ∧ OwnS base w' v xs ∧ Below base w w'

end Go.Proofs.YtlcepokenaiggaaGreatDoor

/-! Ln4 -/
namespace Go.Proofs.YtlcepokenaiggaaGreatDoor
open Go.RowKit

theorem take_snoc {L : List ByteArray} {k : Nat} (h : k < L.length) (F : List ByteArray) : L.take (k + 1) ++ F = L.take k ++ L.getD k ⟨#[]⟩ :: F := by
  rw [List.take_succ_eq_append_getElem h, List.append_assoc]
  simp [h]
theorem set_mid {L : List ByteArray} {k : Nat} (h : k < L.length) (x y : ByteArray) (F : List ByteArray) : (L.take k ++ x :: F).set k y = L.take k ++ y :: F := by
  rw [List.set_append_right _ _ (by rw [List.length_take]; omega), List.length_take]
  have : k - min k L.length = 0 := by omega
  rw [this]
  rfl
theorem mid_len {L F : List ByteArray} {k : Nat} (h : k < L.length) (x : ByteArray) (hF : F.length = L.length - (k + 1)) : (L.take k ++ x :: F).length = L.length := by
  rw [List.length_append, List.length_take, List.length_cons, hF]
  omega
theorem mid_get {L F : List ByteArray} {k : Nat} (h : k < L.length) (x : ByteArray) : (L.take k ++ x :: F).getD k ⟨#[]⟩ = x := by
  have hl : (L.take k).length = k := by rw [List.length_take]; omega
  rw [List.getD_eq_getElem?_getD, List.getElem?_append_right (by omega), hl, Nat.sub_self]; rfl
theorem mid_next {L F : List ByteArray} {k : Nat} (h : k < L.length) (x : ByteArray) : (L.take k ++ x :: F).getD (k + 1) ⟨#[]⟩ = F.headD ⟨#[]⟩ := by
  have hl : (L.take k).length = k := by rw [List.length_take]; omega
  rw [List.getD_eq_getElem?_getD, List.getElem?_append_right (by omega), hl, show k + 1 - k = 1 by omega]
  cases F <;> rfl
/-- One caret more. -/
theorem finF_drop {L : List ByteArray} {k : Nat} (h : k < L.length) : finF (L.drop k) = finF (L.getD k ⟨#[]⟩ :: L.drop (k + 1)) := by
  rw [List.drop_eq_getElem_cons h]
  simp [h]
theorem finF_dlen (L : List ByteArray) (k : Nat) : (finF (L.drop k)).1.length = L.length - k := by rw [finF_length, List.length_drop]
theorem toL_ne {x : ByteArray} {s : ByteArray} {l : List UInt8} (hs : s.data.toList = l) (h : x ≠ s) : (x.toList == l) = false := by
  rw [beq_eq_false_iff_ne, Lib.toList_data]
  intro e
  exact h (ba_ext (by rw [e, hs]))

set_option maxRecDepth 100000 in
set_option maxHeartbeats 4000000 in
theorem lnKinds_any (t : Tr) (w : World) (ht : t.carets ≤ 60) :
    Calls Tryz.prog 53 #[.string t.str] w (GivesS t.kinds w) := by
  obtain ⟨i0, hi, hz0, hz1, hz2⟩ := info_parts info_str
  cases t with
  | lf =>
    go_enter Tryz.func53, Tryz.ntmps53
    go_wp2_with fail
    refine (trLeaf_any .lf _).mono ?_; rintro e w1 ⟨rfl, rfl⟩
    simp only [Tr.isLf]
    go_wp2_with fail
    go_ret
    exact ⟨_, OwnS.nil _ _, Below.refl _ _, rfl⟩
  | nd l r =>
    have ht' : l.carets + r.carets + 1 ≤ 60 := ht
    have jl := fun w => lnLeft_any l w (by omega)
    have jr := fun w => lnRight_any r w (by omega)
    have ll := lft_length l
    have lr := rgt_length r
    have hfin : (Tr.nd l r).kinds = (finF (firstK (Tr.nd l r).raw)).1 := rfl
    obtain ⟨A, hA⟩ : ∃ A, A = l.lft := ⟨_, rfl⟩
    obtain ⟨B, hB⟩ : ∃ B, B = r.rgt := ⟨_, rfl⟩
    have hC : (Tr.nd l r).raw = (A ++ [sLL]) ++ B := by rw [hA, hB]; simp [Tr.raw]
    rw [← hA] at ll jl
    rw [← hB] at lr jr
    rw [hC] at hfin
    have HFIN := Lib.hid hfin
    clear hA hB hC hfin
    go_enter Tryz.func53, Tryz.ntmps53
    go_wp2_with fail
    refine (trLeaf_any (.nd l r) _).mono ?_; rintro e w1 ⟨rfl, rfl⟩
    simp only [Tr.isLf]
    go_wp2_with fail
    refine (trSides_any l r _ (by omega)).mono ?_; rintro e w2 ⟨rfl, hb2⟩
    go_wp2_with fail
    refine (jl _).mono ?_; rintro e w3 ⟨v3, own3, hb3, rfl⟩
    have hs3 := hb3.size
    go_wp2_with (at_builtin; refine wpList_append_own _ rfl _ _ 58 rfl w2.heap.size 9 i0 (.string ⟨#[]⟩) 1 16 Tryz.underlying58 hi hz0 hz1 hz2 rfl (by decide) _ _ _ rfl (own3.alloc _) ⟨w3.heap.size, 0, none⟩ 1 1 [.string (⟨#[76, 76]⟩ : ByteArray)] rfl rfl (new1 _ _ _) (one_str1 _) (by unfold maxLen; omega) (by omega) (by simp; omega) ?_; intro v' w9 hown' hgrow hnn)
    have hbw9 := (nxAlloc hb3 (.cells #[.string (⟨#[76, 76]⟩ : ByteArray)] 9 (0, 0))).grown hgrow (by simp; omega) (fun k hk => ownsRow_ge own3 k hk)
    have own9 := OwnS.snoc1 hown'
    clear own3 hown' hgrow hnn hb3
    go_wp2_with fail
    refine (jr _).mono ?_; rintro e w4 ⟨v4, own4, hb4, rfl⟩
    have hbw4 := nx hbw9 hb4
    have own94 := own9.keep hb4
    have hs4 := hbw4.size
    have e94 : (A ++ [(⟨#[76, 76]⟩ : ByteArray)]).length = A.length + 1 := by simp
    unfold OwnS at own94
    rw [e94] at own94
    clear own9 hbw9 hb4
    go_wp2_with (at_builtin; refine wpList_appSrc rfl _ _ 58 rfl w2.heap.size 9 i0 (.string ⟨#[]⟩) 16 Tryz.underlying58 hi hz0 hz1 hz2 rfl _ _ _ rfl own94 _ _ rfl own4.src (one_strs _) (by rw [List.length_map]; unfold maxLen; omega) (by rw [List.length_map]; omega) hs4 ?_; intro v8 w8 hown8 hb8 hnn8)
    have hbw8 := hbw4.trans hb8
    rw [← e94] at hown8
    have own8 := OwnS.app1 hown8
    clear own94 hown8 hnn8 own4 hb8

    have hraw : ((A ++ [(⟨#[76, 76]⟩ : ByteArray)]) ++ B).length = l.carets + r.carets + 1 := by rw [List.length_append, List.length_append, ll, lr]; show l.carets + 1 + r.carets = _; omega
    obtain ⟨g, cap, hv⟩ := own8.shape (by omega)
    subst hv
    have hL9 : firstK ((A ++ [sLL]) ++ B) = ((A ++ [(⟨#[76, 76]⟩ : ByteArray)]) ++ B).set 0 sL0 := by
      show firstK ((A ++ [(⟨#[76, 76]⟩ : ByteArray)]) ++ B) = _
      cases hq : (A ++ [(⟨#[76, 76]⟩ : ByteArray)]) ++ B with
      | nil => rw [hq] at hraw; simp at hraw
      | cons x q => rfl
    have hset := OwnS.set rfl own8 0 sL0
    rw [← hL9] at hset
    have hLl : (firstK ((A ++ [sLL]) ++ B)).length = l.carets + r.carets + 1 := by rw [firstK_length]; exact hraw
    rw [hraw] at hset ⊢
    have hrow := own8
    unfold OwnS at hrow
    have hfz : w8.frozen? ⟨g, 0, none⟩ = false := World.ownsRow.frozenAt hrow 0
    obtain ⟨x0, hc0⟩ : ∃ x, w8.cell? ⟨g, 0, none⟩ = some x := by
      have := World.ownsRow.cellAt hrow 0 (by omega)
      rw [this]
      exact ⟨_, List.getElem?_eq_getElem (by rw [List.length_map]; omega)⟩
    have hgb : w2.heap.size ≤ g := ownsRow_ge own8 g rfl
    have hgB : w.heap.size ≤ g := Nat.le_trans hb2.size hgb
    have hbw : Below w.heap.size w (w8.setCell ⟨g, 0, none⟩ (.string sL0)) := (nx hb2 hbw8).setCell hgB _
    have hb2s := hb2.size
    clear hrow own8 hbw8 hb2 hL9 jl jr
    obtain ⟨L, hL⟩ : ∃ L, L = firstK ((A ++ [sLL]) ++ B) := ⟨_, rfl⟩
    rw [← hL] at hset hLl
    have hfin := HFIN.out
    rw [← hL] at hfin
    have HF2 := Lib.hid hfin
    clear HFIN hfin hL ll lr hraw
    obtain ⟨n, hn⟩ : ∃ n, n = l.carets + r.carets + 1 := ⟨_, rfl⟩
    rw [← hn] at hset hLl ⊢
    have hn9 : n ≤ 60 := by omega
    have hn0 : 0 < n := by omega
    have HSET := Lib.hid hset
    have HLL := Lib.hid hLl
    clear hn ht ht' hset hLl e94
    unfold sL0 at HSET hbw
    have hn0' : (0 : Int) < (n : Int) := by omega
    have hwn : IntKind.i64.wrap ((n : Int) - 1) = (n : Int) - 1 := by rw [IntKind.wrap_i64]; omega
    go_simp
    go_wp2_with fail
    generalize w8.setCell ⟨g, 0, none⟩ (.string ⟨#[76, 48]⟩) = w10 at *
    clear hc0 hfz
    go_loopw [6, 7] (fun b i wr => ∃ j : Nat, j ≤ n ∧ i = .int .i64 ((j : Int) - 1) ∧ Hid (b = .bool (finF (L.drop j)).2) ∧ Hid (OwnS w2.heap.size wr (.slice (some ⟨g, 0, none⟩) n cap) (L.take j ++ (finF (L.drop j)).1)) ∧ Below w.heap.size w wr) (fun _ i _ => (intOf i + 1).toNat)
    case atStart =>
      have hl := HLL.out
      refine ⟨n, Nat.le_refl _, rfl, ?_, ?_, hbw⟩
      · rw [List.drop_of_length_le (by omega)]; exact Lib.hid rfl
      · have := HSET.out
        rw [List.drop_of_length_le (by omega), List.take_of_length_le (by omega)]
        show OwnS _ _ _ (L ++ [])
        rw [List.append_nil]
        exact this
    case round =>
      obtain ⟨j, hj, rfl, hlate, hownH, hbw⟩ := hrel
      by_cases hlt : 0 < j
      · obtain ⟨k, rfl⟩ : ∃ k, j = k + 1 := ⟨j - 1, by omega⟩
        have hkL : k < L.length := by rw [HLL.out]; omega
        have hd := finF_drop hkL
        have hfl := finF_dlen L (k + 1)
        have hLl := HLL.out
        have hown := hownH.out
        clear hownH
        rw [take_snoc hkL] at hown
        have hl0 : (finF (L.drop (k + 1))).2 = false → 0 < (finF (L.drop (k + 1))).1.length := by
          intro h
          have := finF_late _ h
          rw [finF_length]
          exact List.length_pos_iff.2 this
        rw [finF_step] at hd
        have hlt' := hlate.out
        subst hlt'
        have e0 : ((k + 1 : Nat) : Int) - 1 = (k : Int) := by omega
        rw [e0]
        have hk0 : 0 ≤ (k : Int) := by omega
        have hkn : (k : Int) < (n : Int) := by omega
        generalize L.getD k ⟨#[]⟩ = x at *
        have hFl : (finF (L.drop (k + 1))).1.length = L.length - (k + 1) := hfl
        have HD := Lib.hid hd
        clear hd hlate
        generalize finF (L.drop (k + 1)) = P at *
        obtain ⟨F, b⟩ := P
        dsimp only at hown hl0 hFl hfl
        have hmid := mid_len (L := L) hkL x hFl
        rcases hown.cells with ⟨h0, _⟩ | ⟨g', cap', hv', hbase, hgs, hcn, hcm, hcells, hfz⟩
        · simp at h0
        simp only [Value.slice.injEq, Option.some.injEq, Addr.mk.injEq, and_true] at hv'
        obtain ⟨rfl, _, rfl⟩ := hv'
        have c1 := hcells k (by omega)
        rw [mid_get hkL] at c1
        have hrow := hown
        unfold OwnS at hrow
        rw [hmid, hLl] at hrow
        have hfz : wr.frozen? ⟨g, k, none⟩ = false := World.ownsRow.frozenAt hrow k
        by_cases hx : x = sR
        · subst hx
          cases b with
          | true =>
            have hd := HD.out
            rw [if_pos rfl, if_pos rfl] at hd
            have HD2 := Lib.hid hd
            clear HD hd hfl hl0 hrow
            unfold sR at c1
            have hset := OwnS.set (hmid.trans hLl) hown k sR0
            rw [set_mid hkL] at hset
            have hbw' : Below w.heap.size w (wr.setCell ⟨g, k, none⟩ (.string sR0)) := hbw.setCell hgB _
            have HS := Lib.hid hset
            clear hset hown hcells e0 hFl hmid hLl hwn hs3 hs4 hgs hbase hcn hcm
            unfold sR0 at HS hbw'
            go_wp2_with fail
            go_roundw
            case rel => exact ⟨k, by omega, by go_num, by rw [HD2.out]; exact Lib.hid rfl, by rw [HD2.out]; exact HS, hbw'⟩
            case measure => simp [intOf]
          | false =>
            have hF0 := hl0 rfl
            have hk1 : k + 1 < n := by omega
            have hk1' : (k : Int) + 1 < (n : Int) := by omega
            have hk10 : 0 ≤ (k : Int) + 1 := by omega
            have hwk : IntKind.i64.wrap ((k : Int) + 1) = (k : Int) + 1 := by rw [IntKind.wrap_i64]; omega
            have htk : ((k : Int) + 1).toNat = k + 1 := by omega
            have c2 := hcells (k + 1) (by omega)
            rw [mid_next hkL] at c2
            have hd := HD.out
            rw [if_pos rfl, if_neg (by simp)] at hd
            dsimp only at hd
            generalize F.headD ⟨#[]⟩ = y at *
            unfold sR at c1
            by_cases hy1 : y = sI0
            · subst hy1
              rw [if_pos (by decide)] at hd
              have HD2 := Lib.hid hd
              clear HD hd hfl hl0 hrow
              unfold sI0 at c2
              have hset := OwnS.set (hmid.trans hLl) hown k sRI
              rw [set_mid hkL] at hset
              have hbw' : Below w.heap.size w (wr.setCell ⟨g, k, none⟩ (.string sRI)) := hbw.setCell hgB _
              have HS := Lib.hid hset
              clear hset hown hcells e0 hFl hmid hLl hwn hs3 hs4 hgs hbase hcn hcm
              unfold sRI at HS hbw'
              go_wp2_with fail
              go_roundw
              case rel => exact ⟨k, by omega, by go_num, by rw [HD2.out]; exact Lib.hid rfl, by rw [HD2.out]; exact HS, hbw'⟩
              case measure => simp [intOf]
            · have hz1 := toL_ne (x := y) (s := sI0) (l := [73, 48]) rfl hy1
              by_cases hy2 : y = sIR
              · subst hy2
                rw [if_pos (by decide)] at hd
                have HD2 := Lib.hid hd
                clear HD hd hfl hl0 hrow hy1
                unfold sIR at c2 hz1
                have hset := OwnS.set (hmid.trans hLl) hown k sRI
                rw [set_mid hkL] at hset
                have hbw' : Below w.heap.size w (wr.setCell ⟨g, k, none⟩ (.string sRI)) := hbw.setCell hgB _
                have HS := Lib.hid hset
                clear hset hown hcells e0 hFl hmid hLl hwn hs3 hs4 hgs hbase hcn hcm
                unfold sRI at HS hbw'
                go_wp2_with fail
                go_roundw
                case rel => exact ⟨k, by omega, by go_num, by rw [HD2.out]; exact Lib.hid rfl, by rw [HD2.out]; exact HS, hbw'⟩
                case measure => simp [intOf]
              · have hz2 := toL_ne (x := y) (s := sIR) (l := [73, 82]) rfl hy2
                rw [if_neg (by simp [isNe, hy1, hy2])] at hd
                have HD2 := Lib.hid hd
                clear HD hd hfl hl0 hrow hy1 hy2
                have hset := OwnS.set (hmid.trans hLl) hown k sRN
                rw [set_mid hkL] at hset
                have hbw' : Below w.heap.size w (wr.setCell ⟨g, k, none⟩ (.string sRN)) := hbw.setCell hgB _
                have HS := Lib.hid hset
                clear hset hown hcells e0 hFl hmid hLl hwn hs3 hs4 hgs hbase hcn hcm
                unfold sRN at HS hbw'
                go_wp2_with fail
                go_roundw
                case rel => exact ⟨k, by omega, by go_num, by rw [HD2.out]; exact Lib.hid rfl, by rw [HD2.out]; exact HS, hbw'⟩
                case measure => simp [intOf]
        · have hz := toL_ne (x := x) (s := sR) (l := [82]) rfl hx
          have hd := HD.out
          rw [if_neg hx] at hd
          have HD2 := Lib.hid hd
          have HS := Lib.hid hown
          clear HD hd hfl hl0 hrow hx hown hcells e0 hFl hmid hLl hwn hs3 hs4 hgs hbase hcn hcm
          go_wp2_with fail
          go_roundw
          case rel => exact ⟨k, by omega, by go_num, by rw [HD2.out]; exact Lib.hid rfl, by rw [HD2.out]; exact HS, hbw⟩
          case measure => simp [intOf]
      · obtain rfl : j = 0 := by omega
        have hown := hownH.out
        clear hownH
        rw [List.take_zero, List.nil_append, List.drop_zero, ← HF2.out] at hown
        have HO := Lib.hid hown
        clear hlate hown
        go_wp2_with fail
        go_ret
        exact ⟨_, HO.out.mono hb2s, hbw, rfl⟩
end Go.Proofs.YtlcepokenaiggaaGreatDoor

/-! Ln1 -/
namespace Go.Proofs.YtlcepokenaiggaaGreatDoor
open Go.RowKit

def kL : List ByteArray := [sR0, sRN, sRI, sLL, sI0, sIR]
theorem kL_row (s : ByteArray) (j : Nat) (h : j < 6) : (rowK s < 0 → (kL.getD j ⟨#[]⟩).toList ≠ s.toList) ∧ (0 ≤ rowK s → (j < (rowK s).toNat → (kL.getD j ⟨#[]⟩).toList ≠ s.toList) ∧ (j = (rowK s).toNat → kL.getD j ⟨#[]⟩ = s)) := by
  obtain ⟨h1, h2⟩ := rowK_at s
  have ext : ∀ {a b : ByteArray}, a.toList = b.toList → a = b := by
    intro a b h
    apply ba_ext
    rw [← Lib.toList_data, ← Lib.toList_data, h]
  refine ⟨fun hn e => ?_, fun hp => ⟨fun hj e => (h2 hp).2 j hj (ext e), fun hj => by subst hj; exact (h2 hp).1⟩⟩
  exact h1 hn (kL.getD j ⟨#[]⟩) (by rw [List.getD_eq_getElem?_getD, List.getElem?_eq_getElem (show j < kL.length from h)]; exact List.getElem_mem _) (ext e)
theorem kL_cells (w : World) (t : TypeId) (j : Nat) (h : j < 6) : (w.alloc (.cells #[.string sR0, .string sRN, .string sRI, .string sLL, .string sI0, .string sIR] t (0, 0))).cell? ⟨w.heap.size, j, none⟩ = some (.string (kL.getD j ⟨#[]⟩)) := by
  show ((match (w.alloc (.cells #[.string sR0, .string sRN, .string sRI, .string sLL, .string sI0, .string sIR] t (0, 0))).heap[w.heap.size]? with
    | some (.cells c _ _) => c[j]?
    | _ => none) : Option Value) = _
  rw [heap_alloc_at]
  match j, h with
  | 0, _ => rfl
  | 1, _ => rfl
  | 2, _ => rfl
  | 3, _ => rfl
  | 4, _ => rfl
  | 5, _ => rfl

set_option maxRecDepth 100000 in
set_option maxHeartbeats 2000000 in
theorem lnRow_any (s : ByteArray) (w : World) : Calls Tryz.prog 87 #[.string s] w (Gives (.int .i64 (rowK s)) w) := by
  have hr := rowK_range s
  have hk := kL_row s
  have hc := kL_cells w 9
  have hb0 : Below w.heap.size w (w.alloc (.cells #[.string sR0, .string sRN, .string sRI, .string sLL, .string sI0, .string sIR] 9 (0, 0))) := nxAlloc (Below.refl _ _) _
  unfold sR0 sRN sRI sLL sI0 sIR at hc hb0
  have HK := Lib.hid hk
  have HC := Lib.hid hc
  clear hk hc
  go_enter Tryz.func87, Tryz.ntmps87
  go_wp2_with fail
  have HC' := HC
  generalize (w.alloc _) = w0 at *
  go_loopw [7] (fun i wr => ∃ j : Nat, j ≤ 6 ∧ i = .int .i64 j ∧ (rowK s < 0 ∨ j ≤ (rowK s).toNat) ∧ wr = w0) (fun i _ => 6 - (intOf i).toNat)
  case atStart => exact ⟨0, by omega, rfl, by omega, rfl⟩
  case round =>
    obtain ⟨j, hj, rfl, hjr, rfl⟩ := hrel
    by_cases hlt : j < 6
    · have hlt' : (j : Int) < 6 := by omega
      have c1 := HC.out j hlt
      obtain ⟨k1, k2⟩ := HK.out j hlt
      generalize kL.getD j ⟨#[]⟩ = x at *
      by_cases he : 0 ≤ rowK s ∧ j = (rowK s).toNat
      · obtain rfl := (k2 he.1).2 he.2
        clear k1 k2
        have E : Hid (((j : Nat) : Int) = rowK x) := by show ((j : Nat) : Int) = rowK x; omega
        clear he hjr hr
        go_wp2_with fail
        go_ret
        exact ⟨by rw [E.out]; rfl, hb0⟩
      · have hne : (x.toList == s.toList) = false := by
          rw [beq_eq_false_iff_ne]
          by_cases hn : rowK s < 0
          · exact k1 hn
          · exact (k2 (by omega)).1 (by omega)
        clear k1 k2
        go_wp2_with fail
        go_roundw
        case rel => exact ⟨j + 1, by omega, by go_num, by omega, trivial⟩
        case measure => simp [intOf]; omega
    · obtain rfl : j = 6 := by omega
      have E : Hid (rowK s = -1) := by show rowK s = -1; omega
      clear hr hjr
      go_wp2_with fail
      go_ret
      exact ⟨by rw [E.out]; rfl, hb0⟩

set_option maxRecDepth 100000 in
set_option maxHeartbeats 2000000 in
theorem indexK_any (s : ByteArray) (g : Nat) (w : World) (hc : ∀ j, j < 6 → w.cell? ⟨g, j, none⟩ = some (.string (kL.getD j ⟨#[]⟩))) :
    Calls Tryz.prog 104 #[.slice (some ⟨g, 0, none⟩) 6 6, .string s] w (Gives (.int .i64 (rowK s)) w) := by
  have hr := rowK_range s
  have hk := kL_row s
  have HK := Lib.hid hk
  have HC := Lib.hid hc
  clear hk hc
  go_enter Tryz.func104, Tryz.ntmps104
  go_wp2_with fail
  go_loopw [8] (fun i wr => ∃ j : Nat, j ≤ 6 ∧ i = .int .i64 j ∧ (rowK s < 0 ∨ j ≤ (rowK s).toNat) ∧ wr = w) (fun i _ => 6 - (intOf i).toNat)
  case atStart => exact ⟨0, by omega, rfl, by omega, rfl⟩
  case round =>
    obtain ⟨j, hj, rfl, hjr, rfl⟩ := hrel
    by_cases hlt : j < 6
    · have hlt' : (j : Int) < 6 := by omega
      have c1 := HC.out j hlt
      obtain ⟨k1, k2⟩ := HK.out j hlt
      generalize kL.getD j ⟨#[]⟩ = x at *
      by_cases he : 0 ≤ rowK s ∧ j = (rowK s).toNat
      · obtain rfl := (k2 he.1).2 he.2
        clear k1 k2
        have E : Hid (((j : Nat) : Int) = rowK x) := by show ((j : Nat) : Int) = rowK x; omega
        clear he hjr hr
        go_wp2_with fail
        go_ret
        exact ⟨by rw [E.out]; rfl, Below.refl _ _⟩
      · have hne : (s.toList == x.toList) = false := by
          rw [beq_eq_false_iff_ne]
          intro e
          by_cases hn : rowK s < 0
          · exact k1 hn e.symm
          · exact (k2 (by omega)).1 (by omega) e.symm
        clear k1 k2
        go_wp2_with fail
        go_roundw
        case rel => exact ⟨j + 1, by omega, by go_num, by omega, trivial⟩
        case measure => simp [intOf]; omega
    · obtain rfl : j = 6 := by omega
      have E : Hid (rowK s = -1) := by show rowK s = -1; omega
      clear hr hjr
      go_wp2_with fail
      go_ret
      exact ⟨by rw [E.out]; rfl, Below.refl _ _⟩

set_option maxRecDepth 100000 in
set_option maxHeartbeats 2000000 in
theorem kindPlace_any (s : ByteArray) (w : World) : Calls Tryz.prog 76 #[.string s] w (Gives (.int .i64 (rowK s)) w) := by
  have hc := kL_cells w 9
  have hb0 : Below w.heap.size w (w.alloc (.cells #[.string sR0, .string sRN, .string sRI, .string sLL, .string sI0, .string sIR] 9 (0, 0))) := nxAlloc (Below.refl _ _) _
  have hi := fun h => indexK_any s w.heap.size (w.alloc (.cells #[.string sR0, .string sRN, .string sRI, .string sLL, .string sI0, .string sIR] 9 (0, 0))) h
  unfold sR0 sRN sRI sLL sI0 sIR at hc hb0 hi
  have HI := Lib.hid (hi hc)
  clear hi hc
  go_enter Tryz.func76, Tryz.ntmps76
  go_wp2_with fail
  refine HI.out.mono ?_; rintro e w1 ⟨rfl, hb1⟩
  go_wp2_with fail
  go_ret
  exact ⟨rfl, nx hb0 hb1⟩
end Go.Proofs.YtlcepokenaiggaaGreatDoor

/-! Ln2 -/
namespace Go.Proofs.YtlcepokenaiggaaGreatDoor
open Go.RowKit

def ansJ (o : Option Int) : Value := .tuple #[.int .i64 (o.getD 0), .bool o.isSome]
theorem str_eq (a b : ByteArray) : (a.toList == b.toList) = decide (a = b) := by
  rw [Bool.eq_iff_iff]
  simp only [Lib.toList_data, beq_iff_eq, decide_eq_true_eq]
  exact ⟨fun h => ba_ext h, fun h => by rw [h]⟩
set_option maxRecDepth 100000 in
set_option maxHeartbeats 2000000 in
theorem lnTable_any (a b : ByteArray) (w : World) : Calls Tryz.prog 54 #[.string a, .string b] w (Gives (ansJ (lenO a b)) w) := by
  have hA := fun w => lnRow_any a w
  have hB := fun w => lnRow_any b w
  have ra := rowK_range a
  have rb := rowK_range b
  have ea := str_eq a sL0
  have eb := str_eq b sL0
  unfold lenO
  by_cases h0 : a = sL0 ∧ b = sL0
  · rw [if_pos h0]
    obtain ⟨rfl, rfl⟩ := h0
    clear hA hB ra rb ea eb
    unfold sL0
    go_enter Tryz.func54, Tryz.ntmps54
    go_wp2_with fail
    go_ret2
    exact ⟨rfl, Below.refl _ _⟩
  · rw [if_neg h0]
    have e0 : sL0.toList = [76, 48] := by rw [Lib.toList_data]; rfl
    rw [e0] at ea eb
    have hc : (a.toList == [76, 48]) = false ∨ ((a.toList == [76, 48]) = true ∧ (b.toList == [76, 48]) = false) := by
      rw [ea, eb]
      by_cases k : a = sL0
      · exact .inr ⟨by simp [k], by simp; exact fun e => h0 ⟨k, e⟩⟩
      · exact .inl (by simp [k])
    clear ea eb h0 e0
    generalize rowK a = x at *
    generalize rowK b = y at *
    by_cases h1 : x < 0 ∨ y < 0
    · rw [if_pos h1]
      have h1' : x < 0 ∨ (¬ x < 0 ∧ y < 0) := by omega
      clear h1
      rcases hc with hc | ⟨hc, hd⟩ <;> rcases h1' with h1 | ⟨h1, h2⟩
      all_goals
        go_enter Tryz.func54, Tryz.ntmps54
        go_wp2_with fail
        refine (hA _).mono ?_; rintro e w1 ⟨rfl, hb1⟩
        go_wp2_with fail
        refine (hB _).mono ?_; rintro e w2 ⟨rfl, hb2⟩
        go_wp2_with fail
        go_ret2
        exact ⟨rfl, nx hb1 hb2⟩
    · rw [if_neg h1]
      have h2 : 0 ≤ x ∧ x ≤ 5 ∧ 0 ≤ y ∧ y ≤ 5 := by omega
      obtain ⟨x0, x5, y0, y5⟩ := h2
      have hx : ¬ x < 0 := by omega
      have hy : ¬ y < 0 := by omega
      have hx6 : x < 6 := by omega
      have hy6 : y < 6 := by omega
      clear h1 ra rb
      rcases hc with hc | ⟨hc, hd⟩
      all_goals
        go_enter Tryz.func54, Tryz.ntmps54
        go_wp2_with fail
        refine (hA _).mono ?_; rintro e w1 ⟨rfl, hb1⟩
        go_wp2_with fail
        refine (hB _).mono ?_; rintro e w2 ⟨rfl, hb2⟩
        go_wp2_with fail
        have hbw := nxAlloc (nxAlloc (nxAlloc (nxAlloc (nxAlloc (nxAlloc (nxAlloc (nx hb1 hb2) (.cells #[.int .i64 0, .int .i64 2, .int .i64 2, .int .i64 1, .int .i64 1, .int .i64 3] 3 (0, 0))) (.cells #[.int .i64 2, .int .i64 2, .int .i64 2, .int .i64 1, .int .i64 1, .int .i64 3] 3 (0, 0))) (.cells #[.int .i64 2, .int .i64 2, .int .i64 2, .int .i64 1, .int .i64 3, .int .i64 3] 3 (0, 0))) (.cells #[.int .i64 1, .int .i64 1, .int .i64 1, .int .i64 2, .int .i64 2, .int .i64 2] 3 (0, 0))) (.cells #[.int .i64 1, .int .i64 1, .int .i64 3, .int .i64 2, .int .i64 2, .int .i64 4] 3 (0, 0))) (.cells #[.int .i64 3, .int .i64 3, .int .i64 3, .int .i64 2, .int .i64 4, .int .i64 4] 3 (0, 0))) (.cells #[.slice (some ⟨w2.heap.size, 0, none⟩) 6 6, .slice (some ⟨w2.heap.size + 1, 0, none⟩) 6 6, .slice (some ⟨w2.heap.size + 1 + 1, 0, none⟩) 6 6, .slice (some ⟨w2.heap.size + 1 + 1 + 1, 0, none⟩) 6 6, .slice (some ⟨w2.heap.size + 1 + 1 + 1 + 1, 0, none⟩) 6 6, .slice (some ⟨w2.heap.size + 1 + 1 + 1 + 1 + 1, 0, none⟩) 6 6] 25 (0, 0))
        obtain rfl | rfl | rfl | rfl | rfl | rfl : x = 0 ∨ x = 1 ∨ x = 2 ∨ x = 3 ∨ x = 4 ∨ x = 5 := by omega
        all_goals
          obtain rfl | rfl | rfl | rfl | rfl | rfl : y = 0 ∨ y = 1 ∨ y = 2 ∨ y = 3 ∨ y = 4 ∨ y = 5 := by omega
          all_goals
            simp only [Int.reduceToNat, List.getElem_cons_zero, List.getElem_cons_succ]
            go_simp
            go_wp2_with fail
            go_ret2
            exact ⟨rfl, hbw⟩
end Go.Proofs.YtlcepokenaiggaaGreatDoor

/-! HeldW -/
namespace Go.Proofs.YtlcepokenaiggaaGreatDoor
open Go.RowKit

section
variable {P : Program} {ops : Array Oper} {Q : Exit → Act → World → Prop} {md : Region.Mode}

theorem held_mono {S S' : World → Prop} (hSS : ∀ w, S' w → S w) : ∀ (fuel : Nat) (listed : Array Bool) (a : Act) (w : World),
    wpAnyH P md ops Q S' fuel listed a w → wpAnyH P md ops Q S fuel listed a w
  | 0, _, _, _, h => h
  | fuel + 1, _, _, _, h => ⟨h.1, fun i hi => wpOp_mono (fun a' w' h' => ⟨hSS _ h'.1, held_mono hSS fuel _ a' w' h'.2⟩) (h.2 i hi)⟩

/-- One operation alone may come up; behind it the condition may be another one. -/
theorem held_one {S : World → Prop} {fuel : Nat} {listed : Array Bool} {a : Act} {w : World} (i : Nat) {o : Oper} (ho : ops[i]? = some o) (hr : Region.ready md ops listed = [i])
    (h : ∀ K' : Act → World → Prop, Shut (∀ (S' : World → Prop) a w, (∀ w, S' w → S w) → S' w → wpAnyH P md ops Q S' fuel (listed.setIfInBounds i true) a w → K' a w) → if Region.wanted o (yielded ops a.tmps) = true then Oper.wp P o a w K' Q else K' (a.put o.dst undef) w) :
    wpAnyH P md ops Q S (fuel + 1) listed a w :=
  wpAnyH_ready hr (by simp) (AllReadyH.cons ho (fun K hK => h K (fun _ a w hSS hS hW => hK.out a w (hSS _ hS) (fun _ => held_mono hSS _ _ _ _ hW))) AllReadyH.nil)
/-- Two operations may come up, whichever first. -/
theorem held_two {S : World → Prop} {fuel : Nat} {listed : Array Bool} {a : Act} {w : World} (i j : Nat) {oi oj : Oper} (hoi : ops[i]? = some oi) (hoj : ops[j]? = some oj) (hr : Region.ready md ops listed = [i, j])
    (h : ∀ K' : Act → World → Prop, Shut (∀ (S' : World → Prop) a w, (∀ w, S' w → S w) → S' w → wpAnyH P md ops Q S' fuel (listed.setIfInBounds i true) a w → K' a w) → if Region.wanted oi (yielded ops a.tmps) = true then Oper.wp P oi a w K' Q else K' (a.put oi.dst undef) w)
    (k : ∀ K' : Act → World → Prop, Shut (∀ (S' : World → Prop) a w, (∀ w, S' w → S w) → S' w → wpAnyH P md ops Q S' fuel (listed.setIfInBounds j true) a w → K' a w) → if Region.wanted oj (yielded ops a.tmps) = true then Oper.wp P oj a w K' Q else K' (a.put oj.dst undef) w) :
    wpAnyH P md ops Q S (fuel + 1) listed a w :=
  wpAnyH_ready hr (by simp) (AllReadyH.cons hoi (fun K hK => h K (fun _ a w hSS hS hW => hK.out a w (hSS _ hS) (fun _ => held_mono hSS _ _ _ _ hW)))
    (AllReadyH.cons hoj (fun K hK => k K (fun _ a w hSS hS hW => hK.out a w (hSS _ hS) (fun _ => held_mono hSS _ _ _ _ hW))) AllReadyH.nil))
end
end Go.Proofs.YtlcepokenaiggaaGreatDoor

/-! Ln8 -/
namespace Go.Proofs.YtlcepokenaiggaaGreatDoor
open Go.RowKit

set_option maxRecDepth 100000 in
set_option maxHeartbeats 2000000 in
theorem lnOf_any (p : Pr) (w : World) (hok : okP p) (h1 : p.1.carets ≤ 60) (h2 : p.2.carets ≤ 60) :
    Calls Tryz.prog 28 #[.agg #[.string p.1.str, .string p.2.str]] w (Gives (.int .i64 (lenP p)) w) := by
  have hA := fun w => lnKinds_any p.1 w h1
  have hB := fun w => lnKinds_any p.2 w h2
  obtain ⟨n, hn⟩ : ∃ n, n = p.1.kinds.length := ⟨_, rfl⟩
  have hnc : n = p.1.carets := by rw [hn, kinds_length]
  have hy : p.2.kinds.length = n := by rw [kinds_length, hnc]; exact hok.symm
  have hlen : lenP p = lenU p.1.kinds p.2.kinds n := by unfold lenP; rw [hn]
  have hx := hn.symm
  rw [hlen]
  clear hlen hn
  have hR := lenU_range p.1.kinds p.2.kinds
  have hS : ∀ k, lenU p.1.kinds p.2.kinds (k + 1) = lenU p.1.kinds p.2.kinds k + lenV (p.1.kinds.getD k ⟨#[]⟩) (p.2.kinds.getD k ⟨#[]⟩) := fun k => rfl
  have hV := lenV_range
  have hU0 : lenU p.1.kinds p.2.kinds 0 = 0 := rfl
  have hn60 : n ≤ 60 := by omega
  clear hnc
  generalize lenU p.1.kinds p.2.kinds = U at *
  generalize p.1.kinds = xs at *
  generalize p.2.kinds = ys at *
  go_enter Tryz.func28, Tryz.ntmps28
  go_wp2_with fail
  have hb0 : Below w.heap.size w (w.alloc (.cells #[.string p.1.str, .string p.2.str] 28 (0, 0))) := nxAlloc (Below.refl _ _) _
  have hx0 := heap_alloc_at w (.cells #[.string p.1.str, .string p.2.str] 28 (0, 0))
  generalize (w.alloc (.cells #[.string p.1.str, .string p.2.str] 28 (0, 0))) = w0 at *
  obtain ⟨hx0a, hx0b, hx0c⟩ := two_facts hx0
  obtain ⟨hx0f, hx0g⟩ := two_frozen hx0
  have hz := Below.refl w0.heap.size w0
  go_wp2_with fail
  refine wp_region_held_drew (S := (fun (w' : World) => w'.cell? ⟨w.heap.size, 0, none⟩ = some (.string p.1.str) ∧ w'.cell? ⟨w.heap.size, 1, none⟩ = some (.string p.2.str))) (by kernel_rfl) ⟨hx0a, hx0b⟩ (fun hH0 => ?_)
  refine wpAnyH_take (i := 0) (oi := ?oi201) (v := ?vv201) ?hi201 ?hn201 ?hf201 ?hr201 ?hq201 (Or.inl ⟨?hg201, ?hy201⟩) hH0 ?rest201
  case hi201 => (simp only [List.getElem?_toArray, List.getElem?_cons_zero]; rfl)
  case hn201 => kernel_rfl
  case hf201 => kernel_rfl
  case hr201 => kernel_rfl
  case hg201 => rfl
  case hy201 => (intro w hSw; (try dsimp only at hSw); go_simp; first | done | with_reducible rfl)
  case hq201 => exact fun _ _ _ h => h
  try dsimp only [Act.put]
  refine wpAnyH_take (i := 1) (oi := ?oi202) (v := ?vv202) ?hi202 ?hn202 ?hf202 ?hr202 ?hq202 (Or.inl ⟨?hg202, ?hy202⟩) hH0 ?rest202
  case hi202 => (simp only [List.getElem?_toArray, List.getElem?_cons_succ, List.getElem?_cons_zero]; rfl)
  case hn202 => kernel_rfl
  case hf202 => kernel_rfl
  case hr202 => kernel_rfl
  case hg202 => rfl
  case hy202 => (intro w hSw; (try dsimp only at hSw); go_simp; first | done | with_reducible rfl)
  case hq202 => exact fun _ _ _ h => h
  try dsimp only [Act.put]
  refine wpAnyH_take (i := 3) (oi := ?oi203) (v := ?vv203) ?hi203 ?hn203 ?hf203 ?hr203 ?hq203 (Or.inl ⟨?hg203, ?hy203⟩) hH0 ?rest203
  case hi203 => (simp only [List.getElem?_toArray, List.getElem?_cons_succ, List.getElem?_cons_zero]; rfl)
  case hn203 => kernel_rfl
  case hf203 => kernel_rfl
  case hr203 => kernel_rfl
  case hg203 => rfl
  case hy203 => (intro w hSw; (try dsimp only at hSw); go_simp; first | done | with_reducible rfl)
  case hq203 => exact fun _ _ _ h => h
  try dsimp only [Act.put]
  refine wpAnyH_take (i := 4) (oi := ?oi204) (v := ?vv204) ?hi204 ?hn204 ?hf204 ?hr204 ?hq204 (Or.inl ⟨?hg204, ?hy204⟩) hH0 ?rest204
  case hi204 => (simp only [List.getElem?_toArray, List.getElem?_cons_succ, List.getElem?_cons_zero]; rfl)
  case hn204 => kernel_rfl
  case hf204 => kernel_rfl
  case hr204 => kernel_rfl
  case hg204 => rfl
  case hy204 => (intro w hSw; (try dsimp only at hSw); go_simp; first | done | with_reducible rfl)
  case hq204 => exact fun _ _ _ h => h
  try dsimp only [Act.put]
  refine held_one 2 rfl (by kernel_rfl) (fun K hK => ?_)
  go_simp
  refine (hA _).mono ?_; rintro e w1 ⟨v1, own1, hb1, rfl⟩
  have hb1' := nx hz.drew hb1
  go_wp2_with fail
  have hH1 : (fun (w' : World) => w'.cell? ⟨w.heap.size, 0, none⟩ = some (.string p.1.str) ∧ w'.cell? ⟨w.heap.size, 1, none⟩ = some (.string p.2.str)) _ := ⟨keep_cell hb1' hx0a, keep_cell hb1' hx0b⟩
  refine hK.out (fun (w' : World) => w'.cell? ⟨w.heap.size, 0, none⟩ = some (.string p.1.str) ∧ w'.cell? ⟨w.heap.size, 1, none⟩ = some (.string p.2.str)) _ _ (fun _ h => h) hH1 ?_
  clear hK K
  try dsimp only [Act.put]
  refine held_one 5 rfl (by kernel_rfl) (fun K hK => ?_)
  go_simp
  refine (hB _).mono ?_; rintro e w2 ⟨v2, own2, hb2, rfl⟩
  have hb2' := nx hb1' hb2
  go_wp2_with fail
  have hH2 : (fun (w' : World) => w'.cell? ⟨w.heap.size, 0, none⟩ = some (.string p.1.str) ∧ w'.cell? ⟨w.heap.size, 1, none⟩ = some (.string p.2.str)) _ := ⟨keep_cell hb2' hx0a, keep_cell hb2' hx0b⟩
  refine hK.out (fun (w' : World) => w'.cell? ⟨w.heap.size, 0, none⟩ = some (.string p.1.str) ∧ w'.cell? ⟨w.heap.size, 1, none⟩ = some (.string p.2.str)) _ _ (fun _ h => h) hH2 ?_
  clear hK K
  try dsimp only [Act.put]
  refine wpAnyH_take (i := 6) (oi := ?oi205) (v := ?vv205) ?hi205 ?hn205 ?hf205 ?hr205 ?hq205 (Or.inl ⟨?hg205, ?hy205⟩) hH2 ?rest205
  case hi205 => (simp only [List.getElem?_toArray, List.getElem?_cons_succ, List.getElem?_cons_zero]; rfl)
  case hn205 => kernel_rfl
  case hf205 => kernel_rfl
  case hr205 => kernel_rfl
  case hg205 => rfl
  case hy205 => (intro w hSw; (try dsimp only at hSw); go_simp; first | done | with_reducible rfl)
  case hq205 => exact fun _ _ _ h => h
  try dsimp only [Act.put]
  refine wpAnyH_take (i := 7) (oi := ?oi206) (v := ?vv206) ?hi206 ?hn206 ?hf206 ?hr206 ?hq206 (Or.inl ⟨?hg206, ?hy206⟩) hH2 ?rest206
  case hi206 => (simp only [List.getElem?_toArray, List.getElem?_cons_succ, List.getElem?_cons_zero]; rfl)
  case hn206 => kernel_rfl
  case hf206 => kernel_rfl
  case hr206 => kernel_rfl
  case hg206 => rfl
  case hy206 => (intro w hSw; (try dsimp only at hSw); go_simp; first | done | with_reducible rfl)
  case hq206 => exact fun _ _ _ h => h
  try dsimp only [Act.put]
  refine wpAnyH_done (by kernel_rfl) ?_ _
  simp only [List.setIfInBounds_toArray, List.set_cons_zero, List.set_cons_succ]
  have hbw2 := nx hb0 hb2'
  have own1' := own1.keep hb2
  clear hx0 hx0a hx0b hx0c hx0f hx0g hb0 hb1 hb2 hb1' hb2' own1 hA hB hz hH0 hH1 hH2
  by_cases hn0 : n = 0
  · subst hn0
    obtain rfl := List.length_eq_zero_iff.1 hx
    have hv1 : (v1 = .slice none 0 0) ∨ ∃ g c, v1 = .slice (some ⟨g, 0, none⟩) 0 c := by
      rcases own1'.cells with ⟨h0, _⟩ | ⟨g1, cap1, h0, _⟩
      · exact .inl h0
      · exact .inr ⟨g1, cap1, h0⟩
    clear own1' own2 hS hR hV
    rcases hv1 with rfl | ⟨g, c, rfl⟩
    all_goals
      go_wp2_with fail
      go_loopw [5, 17] (fun s i wr => s = .int .i64 0 ∧ i = .int .i64 0 ∧ wr = w2) (fun _ _ _ => 0)
      case atStart => exact ⟨rfl, rfl, rfl⟩
      case round =>
        obtain ⟨rfl, rfl, rfl⟩ := hrel
        go_wp2_with fail
        go_ret
        exact ⟨by rw [hU0]; rfl, hbw2⟩
  · skip
    rcases own1'.cells with ⟨h0, h1⟩ | ⟨g1, cap1, rfl, _, hg1, hc1, hc2, hcell1, _⟩
    · rw [h1] at hx
      simp at hx
      omega
    rcases own2.cells with ⟨h0, h1⟩ | ⟨g2, cap2, rfl, _, hg2, hc3, hc4, hcell2, _⟩
    · rw [h1] at hy
      simp at hy
      omega
    rw [hx] at hc1 hcell1 ⊢
    rw [hy] at hc3 hcell2 ⊢
    have HC1 := Lib.hid hcell1
    have HC2 := Lib.hid hcell2
    unfold maxLen at hc2 hc4
    clear hcell1 hcell2 own1' own2
    go_wp2_with fail
    go_loopw [5, 17] (fun s i wr => ∃ k : Nat, k ≤ n ∧ i = .int .i64 k ∧ s = .int .i64 (U k) ∧ Below w2.heap.size w2 wr) (fun _ i _ => n - (intOf i).toNat)
    case atStart => exact ⟨0, Nat.zero_le _, rfl, by rw [hU0], Below.refl _ _⟩
    case round =>
      obtain ⟨k, hk, rfl, rfl, hbw⟩ := hrel
      by_cases hlt : k < n
      · have hlt' : (k : Int) < (n : Int) := by omega
        have d1 := HC1.out k (by omega)
        have d2 := HC2.out k (by omega)
        have hs := hS k
        have hr := hR k
        have hv := hV (xs.getD k ⟨#[]⟩) (ys.getD k ⟨#[]⟩)
        have hlv : ∀ a b, lenV a b = (lenO a b).getD 0 := fun _ _ => rfl
        rw [hlv] at hs hv
        generalize xs.getD k ⟨#[]⟩ = a at *
        generalize ys.getD k ⟨#[]⟩ = b at *
        have c1 := (hbw.cell (p := ⟨g1, k, none⟩) hg1).trans d1
        have c2 := (hbw.cell (p := ⟨g2, k, none⟩) hg2).trans d2
        have hL := fun w => lnTable_any a b w
        unfold ansJ at hL
        generalize (lenO a b).getD 0 = z at *
        generalize (lenO a b).isSome = q at *
        have hw : IntKind.i64.wrap (U k + z) = U k + z := by rw [IntKind.wrap_i64]; omega
        have HS := Lib.hid hs
        clear hs hlv hv hr hS hR hV d1 d2
        go_wp2_with fail
        have hz3 := Below.refl wr.heap.size wr
        refine wp_region_held_drew (S := (fun (w' : World) => w'.cell? ⟨g1, k, none⟩ = some (.string a) ∧ w'.cell? ⟨g2, k, none⟩ = some (.string b))) (by kernel_rfl) ⟨c1, c2⟩ (fun hH0 => ?_)
        refine wpAnyH_take (i := 0) (oi := ?oi401) (v := ?vv401) ?hi401 ?hn401 ?hf401 ?hr401 ?hq401 (Or.inl ⟨?hg401, ?hy401⟩) hH0 ?rest401
        case hi401 => (simp only [List.getElem?_toArray, List.getElem?_cons_zero]; rfl)
        case hn401 => kernel_rfl
        case hf401 => kernel_rfl
        case hr401 => kernel_rfl
        case hg401 => rfl
        case hy401 => (intro w hSw; (try dsimp only at hSw); go_simp; first | done | with_reducible rfl)
        case hq401 => exact fun _ _ _ h => h
        try dsimp only [Act.put]
        refine wpAnyH_take (i := 1) (oi := ?oi402) (v := ?vv402) ?hi402 ?hn402 ?hf402 ?hr402 ?hq402 (Or.inl ⟨?hg402, ?hy402⟩) hH0 ?rest402
        case hi402 => (simp only [List.getElem?_toArray, List.getElem?_cons_succ, List.getElem?_cons_zero]; rfl)
        case hn402 => kernel_rfl
        case hf402 => kernel_rfl
        case hr402 => kernel_rfl
        case hg402 => rfl
        case hy402 => (intro w hSw; (try dsimp only at hSw); go_simp; first | done | with_reducible rfl)
        case hq402 => exact fun _ _ _ h => h
        try dsimp only [Act.put]
        refine wpAnyH_take (i := 2) (oi := ?oi403) (v := ?vv403) ?hi403 ?hn403 ?hf403 ?hr403 ?hq403 (Or.inl ⟨?hg403, ?hy403⟩) hH0 ?rest403
        case hi403 => (simp only [List.getElem?_toArray, List.getElem?_cons_succ, List.getElem?_cons_zero]; rfl)
        case hn403 => kernel_rfl
        case hf403 => kernel_rfl
        case hr403 => kernel_rfl
        case hg403 => rfl
        case hy403 => (intro w hSw; (try dsimp only at hSw); go_simp; first | done | with_reducible rfl)
        case hq403 => exact fun _ _ _ h => h
        try dsimp only [Act.put]
        refine wpAnyH_take (i := 3) (oi := ?oi404) (v := ?vv404) ?hi404 ?hn404 ?hf404 ?hr404 ?hq404 (Or.inl ⟨?hg404, ?hy404⟩) hH0 ?rest404
        case hi404 => (simp only [List.getElem?_toArray, List.getElem?_cons_succ, List.getElem?_cons_zero]; rfl)
        case hn404 => kernel_rfl
        case hf404 => kernel_rfl
        case hr404 => kernel_rfl
        case hg404 => rfl
        case hy404 => (intro w hSw; (try dsimp only at hSw); go_simp; first | done | with_reducible rfl)
        case hq404 => exact fun _ _ _ h => h
        try dsimp only [Act.put]
        refine wpAnyH_take (i := 4) (oi := ?oi405) (v := ?vv405) ?hi405 ?hn405 ?hf405 ?hr405 ?hq405 (Or.inl ⟨?hg405, ?hy405⟩) hH0 ?rest405
        case hi405 => (simp only [List.getElem?_toArray, List.getElem?_cons_succ, List.getElem?_cons_zero]; rfl)
        case hn405 => kernel_rfl
        case hf405 => kernel_rfl
        case hr405 => kernel_rfl
        case hg405 => rfl
        case hy405 => (intro w hSw; (try dsimp only at hSw); go_simp; first | done | with_reducible rfl)
        case hq405 => exact fun _ _ _ h => h
        try dsimp only [Act.put]
        refine wpAnyH_take (i := 5) (oi := ?oi406) (v := ?vv406) ?hi406 ?hn406 ?hf406 ?hr406 ?hq406 (Or.inl ⟨?hg406, ?hy406⟩) hH0 ?rest406
        case hi406 => (simp only [List.getElem?_toArray, List.getElem?_cons_succ, List.getElem?_cons_zero]; rfl)
        case hn406 => kernel_rfl
        case hf406 => kernel_rfl
        case hr406 => kernel_rfl
        case hg406 => rfl
        case hy406 => (intro w hSw; (try dsimp only at hSw); go_simp; first | done | with_reducible rfl)
        case hq406 => exact fun _ _ _ h => h
        try dsimp only [Act.put]
        refine wpAnyH_take (i := 6) (oi := ?oi407) (v := ?vv407) ?hi407 ?hn407 ?hf407 ?hr407 ?hq407 (Or.inl ⟨?hg407, ?hy407⟩) hH0 ?rest407
        case hi407 => (simp only [List.getElem?_toArray, List.getElem?_cons_succ, List.getElem?_cons_zero]; rfl)
        case hn407 => kernel_rfl
        case hf407 => kernel_rfl
        case hr407 => kernel_rfl
        case hg407 => rfl
        case hy407 => (intro w hSw; (try dsimp only at hSw); go_simp; first | done | with_reducible rfl)
        case hq407 => exact fun _ _ _ h => h
        try dsimp only [Act.put]
        refine wpAnyH_take (i := 7) (oi := ?oi408) (v := ?vv408) ?hi408 ?hn408 ?hf408 ?hr408 ?hq408 (Or.inl ⟨?hg408, ?hy408⟩) hH0 ?rest408
        case hi408 => (simp only [List.getElem?_toArray, List.getElem?_cons_succ, List.getElem?_cons_zero]; rfl)
        case hn408 => kernel_rfl
        case hf408 => kernel_rfl
        case hr408 => kernel_rfl
        case hg408 => rfl
        case hy408 => (intro w hSw; (try dsimp only at hSw); go_simp; first | done | with_reducible rfl)
        case hq408 => exact fun _ _ _ h => h
        try dsimp only [Act.put]
        refine held_one 8 rfl (by kernel_rfl) (fun K hK => ?_)
        go_simp
        refine (hL _).mono ?_; rintro e w3 ⟨rfl, hb3⟩
        have hb3' := nx hz3.drew hb3
        go_wp2_with fail
        have hH1 : (fun (w' : World) => w'.cell? ⟨g1, k, none⟩ = some (.string a) ∧ w'.cell? ⟨g2, k, none⟩ = some (.string b)) _ := ⟨keep_cell hb3' c1, keep_cell hb3' c2⟩
        refine hK.out (fun (w' : World) => w'.cell? ⟨g1, k, none⟩ = some (.string a) ∧ w'.cell? ⟨g2, k, none⟩ = some (.string b)) _ _ (fun _ h => h) hH1 ?_
        clear hK K
        try dsimp only [Act.put]
        refine wpAnyH_take (i := 9) (oi := ?oi409) (v := ?vv409) ?hi409 ?hn409 ?hf409 ?hr409 ?hq409 (Or.inl ⟨?hg409, ?hy409⟩) hH1 ?rest409
        case hi409 => (simp only [List.getElem?_toArray, List.getElem?_cons_succ, List.getElem?_cons_zero]; rfl)
        case hn409 => kernel_rfl
        case hf409 => kernel_rfl
        case hr409 => kernel_rfl
        case hg409 => rfl
        case hy409 => (intro w hSw; (try dsimp only at hSw); go_simp; first | done | with_reducible rfl)
        case hq409 => exact fun _ _ _ h => h
        try dsimp only [Act.put]
        refine wpAnyH_take (i := 10) (oi := ?oi410) (v := ?vv410) ?hi410 ?hn410 ?hf410 ?hr410 ?hq410 (Or.inl ⟨?hg410, ?hy410⟩) hH1 ?rest410
        case hi410 => (simp only [List.getElem?_toArray, List.getElem?_cons_succ, List.getElem?_cons_zero]; rfl)
        case hn410 => kernel_rfl
        case hf410 => kernel_rfl
        case hr410 => kernel_rfl
        case hg410 => rfl
        case hy410 => (intro w hSw; (try dsimp only at hSw); go_simp; first | done | with_reducible rfl)
        case hq410 => exact fun _ _ _ h => h
        try dsimp only [Act.put]
        refine wpAnyH_take (i := 11) (oi := ?oi411) (v := ?vv411) ?hi411 ?hn411 ?hf411 ?hr411 ?hq411 (Or.inl ⟨?hg411, ?hy411⟩) hH1 ?rest411
        case hi411 => (simp only [List.getElem?_toArray, List.getElem?_cons_succ, List.getElem?_cons_zero]; rfl)
        case hn411 => kernel_rfl
        case hf411 => kernel_rfl
        case hr411 => kernel_rfl
        case hg411 => rfl
        case hy411 => (intro w hSw; (try dsimp only at hSw); go_simp; first | done | with_reducible rfl)
        case hq411 => exact fun _ _ _ h => h
        try dsimp only [Act.put]
        refine wpAnyH_take (i := 12) (oi := ?oi412) (v := ?vv412) ?hi412 ?hn412 ?hf412 ?hr412 ?hq412 (Or.inl ⟨?hg412, ?hy412⟩) hH1 ?rest412
        case hi412 => (simp only [List.getElem?_toArray, List.getElem?_cons_succ, List.getElem?_cons_zero]; rfl)
        case hn412 => kernel_rfl
        case hf412 => kernel_rfl
        case hr412 => kernel_rfl
        case hg412 => rfl
        case hy412 => (intro w hSw; (try dsimp only at hSw); go_simp; first | done | with_reducible rfl)
        case hq412 => exact fun _ _ _ h => h
        try dsimp only [Act.put]
        refine wpAnyH_take (i := 13) (oi := ?oi413) (v := ?vv413) ?hi413 ?hn413 ?hf413 ?hr413 ?hq413 (Or.inl ⟨?hg413, ?hy413⟩) hH1 ?rest413
        case hi413 => (simp only [List.getElem?_toArray, List.getElem?_cons_succ, List.getElem?_cons_zero]; rfl)
        case hn413 => kernel_rfl
        case hf413 => kernel_rfl
        case hr413 => kernel_rfl
        case hg413 => rfl
        case hy413 => (intro w hSw; (try dsimp only at hSw); go_simp; first | done | with_reducible rfl)
        case hq413 => exact fun _ _ _ h => h
        try dsimp only [Act.put]
        refine wpAnyH_done (by kernel_rfl) ?_ _
        simp only [List.setIfInBounds_toArray, List.set_cons_zero, List.set_cons_succ]
        have hbw3 := nx hbw hb3'
        clear hb3 hb3' hz3 hH0 hH1 c1 c2 hL hbw
        go_wp2_with fail
        go_roundw
        case rel => exact ⟨k + 1, by omega, by go_num, by rw [HS.out], hbw3⟩
        case measure => simp [intOf]; omega
      · obtain rfl : k = n := by omega
        clear hS hR hV
        go_wp2_with fail
        go_ret
        exact ⟨rfl, nx hbw2 hbw⟩
end Go.Proofs.YtlcepokenaiggaaGreatDoor

/-! Lt2 -/
namespace Go.Proofs.YtlcepokenaiggaaGreatDoor
open Go.RowKit

/-- The lengths of the products with the four letters. -/
def nextL (p : Pr) : List Int := fourL.map fun x => lenP (mulP p (ltP x))
theorem nextL_length (p : Pr) : (nextL p).length = 4 := rfl
theorem nextL_take (p : Pr) (k : Nat) (h : k < 4) : (nextL p).take (k + 1) = (nextL p).take k ++ [lenP (mulP p (ltP (fourL.getD k 0)))] := by
  match k, h with
  | 0, _ => rfl
  | 1, _ => rfl
  | 2, _ => rfl
  | 3, _ => rfl
theorem mulP_small {p q : Pr} (hp : okP p) (hq : okP q) (h1 : p.1.carets ≤ 30) (h2 : q.1.carets ≤ 30) : okP (mulP p q) ∧ (mulP p q).1.carets ≤ 60 ∧ (mulP p q).2.carets ≤ 60 := by
  have h := mulP_carets hp hq
  have ho := mulP_ok hp hq
  have ho' := ho
  unfold okP at hp ho'
  exact ⟨ho, by omega, by omega⟩

set_option maxRecDepth 100000 in
set_option maxHeartbeats 4000000 in
theorem lnNext_any (p : Pr) (w : World) (hok : okP p) (hc : p.1.carets ≤ 30) :
    Calls Tryz.prog 22 #[.agg #[.string p.1.str, .string p.2.str]] w (GivesInts (nextL p) w) := by
  obtain ⟨i0, hi, hz0, hz1, hz2⟩ := info_parts info_int
  go_enter Tryz.func22, Tryz.ntmps22
  go_wp2_with fail
  have hb0 : Below w.heap.size w (w.alloc (.cells #[.string p.1.str, .string p.2.str] 28 (0, 0))) := nxAlloc (Below.refl _ _) _
  have hx0 := heap_alloc_at w (.cells #[.string p.1.str, .string p.2.str] 28 (0, 0))
  generalize (w.alloc (.cells #[.string p.1.str, .string p.2.str] 28 (0, 0))) = w0 at *
  obtain ⟨hx0a, hx0b, hx0c⟩ := two_facts hx0
  obtain ⟨hx0f, hx0g⟩ := two_frozen hx0
  refine (lnLetters_any _).mono ?_; rintro e w1 ⟨rfl, hL0, hg1, hb1⟩
  have hbw1 := nx hb0 hb1
  replace hx0 := heap_keep hb1 hx0
  clear hx0a hx0b hx0c hx0f hx0g
  obtain ⟨hx0a, hx0b, hx0c⟩ := two_facts hx0
  obtain ⟨hx0f, hx0g⟩ := two_frozen hx0
  have HL := Lib.hid hL0
  have e1 := hx0a
  have e2 := hx0b
  generalize w0.heap.size = g at *
  clear hL0 hx0 hx0a hx0b hx0c hx0f hx0g hb0 hb1
  go_wp2_with fail
  go_loopw [3, 8] (fun v i wr => ∃ k : Nat, k ≤ 4 ∧ i = .int .i64 k ∧ OwnI w1.heap.size wr v ((nextL p).take k) ∧ Below w1.heap.size w1 wr) (fun _ i _ => 4 - (intOf i).toNat)
  case atStart => exact ⟨0, Nat.zero_le _, rfl, OwnI.nil _ _, Below.refl _ _⟩
  case round =>
    obtain ⟨k, hk, rfl, hown, hbw⟩ := hrel
    by_cases hlt : k < 4
    · have hlt' : (k : Int) < 4 := by omega
      have c1 := (hbw.cell (p := ⟨g, k, none⟩) hg1).trans (HL.out k hlt)
      obtain ⟨x0, x1, x2⟩ := fourL_get k hlt
      have hnext := nextL_take p k hlt
      have hlen : ((nextL p).take k).length = k := by rw [List.length_take, nextL_length]; omega
      generalize fourL.getD k 0 = x at *
      obtain ⟨k1, k2, k3⟩ := ltP_small x0 x1 x2
      obtain ⟨m1, m2, m3⟩ := mulP_small hok k1 hc (by omega)
      have hW := fun w => wdLetter_any x w x0 (by omega) (by omega)
      have hP := fun w => prTimes_any p (ltP x) w hok k1 hc (by omega)
      have hL := fun w => lnOf_any (mulP p (ltP x)) w m1 m2 m3
      generalize lenP (mulP p (ltP x)) = z at *
      generalize (mulP p (ltP x)).1.str = C at *
      generalize (mulP p (ltP x)).2.str = D at *
      generalize (ltP x).1.str = A at *
      generalize (ltP x).2.str = B at *
      generalize (nextL p).take k = ts at *
      have HN := Lib.hid hnext
      have f1 := keep_cell hbw e1
      have f2 := keep_cell hbw e2
      have hz := Below.refl wr.heap.size wr
      clear hnext k1 k2 k3 m1 m2 m3
      go_wp2_with fail
      refine wp_region_held_drew (S := (fun (w' : World) => w'.cell? ⟨w.heap.size, 0, none⟩ = some (.string p.1.str) ∧ w'.cell? ⟨w.heap.size, 1, none⟩ = some (.string p.2.str))) (by kernel_rfl) ⟨f1, f2⟩ (fun hH0 => ?_)
      refine wpAnyH_take (i := 0) (oi := ?oi201) (v := ?vv201) ?hi201 ?hn201 ?hf201 ?hr201 ?hq201 (Or.inl ⟨?hg201, ?hy201⟩) hH0 ?rest201
      case hi201 => (simp only [List.getElem?_toArray, List.getElem?_cons_zero]; rfl)
      case hn201 => kernel_rfl
      case hf201 => kernel_rfl
      case hr201 => kernel_rfl
      case hg201 => rfl
      case hy201 => (intro w hSw; (try dsimp only at hSw); go_simp; first | done | with_reducible rfl)
      case hq201 => exact fun _ _ _ h => h
      try dsimp only [Act.put]
      refine wpAnyH_take (i := 1) (oi := ?oi202) (v := ?vv202) ?hi202 ?hn202 ?hf202 ?hr202 ?hq202 (Or.inl ⟨?hg202, ?hy202⟩) hH0 ?rest202
      case hi202 => (simp only [List.getElem?_toArray, List.getElem?_cons_succ, List.getElem?_cons_zero]; rfl)
      case hn202 => kernel_rfl
      case hf202 => kernel_rfl
      case hr202 => kernel_rfl
      case hg202 => rfl
      case hy202 => (intro w hSw; (try dsimp only at hSw); go_simp; first | done | with_reducible rfl)
      case hq202 => exact fun _ _ _ h => h
      try dsimp only [Act.put]
      refine wpAnyH_take (i := 2) (oi := ?oi203) (v := ?vv203) ?hi203 ?hn203 ?hf203 ?hr203 ?hq203 (Or.inl ⟨?hg203, ?hy203⟩) hH0 ?rest203
      case hi203 => (simp only [List.getElem?_toArray, List.getElem?_cons_succ, List.getElem?_cons_zero]; rfl)
      case hn203 => kernel_rfl
      case hf203 => kernel_rfl
      case hr203 => kernel_rfl
      case hg203 => rfl
      case hy203 => (intro w hSw; (try dsimp only at hSw); go_simp; first | done | with_reducible rfl)
      case hq203 => exact fun _ _ _ h => h
      try dsimp only [Act.put]
      refine held_one 3 rfl (by kernel_rfl) (fun K hK => ?_)
      go_simp
      refine (hW _).mono ?_; rintro e w3 ⟨rfl, hb3⟩
      have hb3' := nx hz.drew hb3
      go_wp2_with fail
      have hH1 : (fun (w' : World) => w'.cell? ⟨w.heap.size, 0, none⟩ = some (.string p.1.str) ∧ w'.cell? ⟨w.heap.size, 1, none⟩ = some (.string p.2.str)) _ := ⟨keep_cell hb3' f1, keep_cell hb3' f2⟩
      refine hK.out (fun (w' : World) => w'.cell? ⟨w.heap.size, 0, none⟩ = some (.string p.1.str) ∧ w'.cell? ⟨w.heap.size, 1, none⟩ = some (.string p.2.str)) _ _ (fun _ h => h) hH1 ?_
      clear hK K
      try dsimp only [Act.put]
      refine held_one 4 rfl (by kernel_rfl) (fun K hK => ?_)
      go_simp
      refine (hP _).mono ?_; rintro e w4 ⟨rfl, hb4⟩
      have hb4' := nx hb3' hb4
      go_wp2_with fail
      have hH2 : (fun (w' : World) => w'.cell? ⟨w.heap.size, 0, none⟩ = some (.string p.1.str) ∧ w'.cell? ⟨w.heap.size, 1, none⟩ = some (.string p.2.str)) _ := ⟨keep_cell hb4' f1, keep_cell hb4' f2⟩
      refine hK.out (fun (w' : World) => w'.cell? ⟨w.heap.size, 0, none⟩ = some (.string p.1.str) ∧ w'.cell? ⟨w.heap.size, 1, none⟩ = some (.string p.2.str)) _ _ (fun _ h => h) hH2 ?_
      clear hK K
      try dsimp only [Act.put]
      refine held_one 5 rfl (by kernel_rfl) (fun K hK => ?_)
      go_simp
      refine (hL _).mono ?_; rintro e w5 ⟨rfl, hb5⟩
      have hb5' := nx hb4' hb5
      go_wp2_with fail
      have hH3 : (fun (w' : World) => w'.cell? ⟨w.heap.size, 0, none⟩ = some (.string p.1.str) ∧ w'.cell? ⟨w.heap.size, 1, none⟩ = some (.string p.2.str)) _ := ⟨keep_cell hb5' f1, keep_cell hb5' f2⟩
      refine hK.out (fun (w' : World) => w'.cell? ⟨w.heap.size, 0, none⟩ = some (.string p.1.str) ∧ w'.cell? ⟨w.heap.size, 1, none⟩ = some (.string p.2.str)) _ _ (fun _ h => h) hH3 ?_
      clear hK K
      try dsimp only [Act.put]
      have hown5 := hown.keep hb5'
      have hb15 := nx hbw hb5'
      have hbn := nxAlloc hb15 (.cells #[.int .i64 z] 3 (0, 0))
      have hsn := hb15.size
      have e15 := nx hb5' (nxAlloc (Below.refl w5.heap.size w5) (.cells #[.int .i64 z] 3 (0, 0)))
      refine held_one 6 rfl (by kernel_rfl) (fun K hK => ?_)
      go_simp
      refine hK.out (fun (w' : World) => w'.cell? ⟨w.heap.size, 0, none⟩ = some (.string p.1.str) ∧ w'.cell? ⟨w.heap.size, 1, none⟩ = some (.string p.2.str)) _ _ (fun _ h => h) ⟨keep_cell e15 f1, keep_cell e15 f2⟩ ?_
      clear hK K
      try dsimp only [Act.put]
      refine held_one 7 rfl (by kernel_rfl) (fun K hK => ?_)
      refine step_append_lies _ rfl _ _ 25 rfl w1.heap.size 3 i0 (.int .i64 0) 1 8 Tryz.underlying25 hi hz0 hz1 hz2 rfl (by decide) _ _ _ rfl (hown5.alloc _) ⟨w5.heap.size, 0, none⟩ 1 1 [.int .i64 z] rfl rfl (new1 _ _ _) (one1 _) (by decide) (by unfold maxLen; omega) (by omega) (by simp; omega) _ rfl ?_
      intro g9 cap9 w9 hown9 hgrow hnb hlt9
      have hbw9 := hbn.grown hgrow (by simp; omega) (fun k hk => ownsRow_ge hown5 k hk)
      have hown1 := OwnI.snoc hown9
      rw [hlen] at hown1
      refine hK.out (fun (w' : World) => w'.cell? ⟨w.heap.size, 0, none⟩ = some (.string p.1.str) ∧ w'.cell? ⟨w.heap.size, 1, none⟩ = some (.string p.2.str)) _ _ (fun _ h => h) ⟨keep_cell hbw9 e1, keep_cell hbw9 e2⟩ ?_
      clear hK K
      try dsimp only [Act.put]
      refine wpAnyH_take (i := 8) (oi := ?oi801) (v := ?vv801) ?hi801 ?hn801 ?hf801 ?hr801 ?hq801 (Or.inl ⟨?hg801, ?hy801⟩) (show (fun (w' : World) => w'.cell? ⟨w.heap.size, 0, none⟩ = some (.string p.1.str) ∧ w'.cell? ⟨w.heap.size, 1, none⟩ = some (.string p.2.str)) w9 from ⟨keep_cell hbw9 e1, keep_cell hbw9 e2⟩) ?rest801
      case hi801 => (simp only [List.getElem?_toArray, List.getElem?_cons_succ, List.getElem?_cons_zero]; rfl)
      case hn801 => kernel_rfl
      case hf801 => kernel_rfl
      case hr801 => kernel_rfl
      case hg801 => rfl
      case hy801 => (intro w hSw; (try dsimp only at hSw); go_simp; first | done | with_reducible rfl)
      case hq801 => exact fun _ _ _ h => h
      try dsimp only [Act.put]
      refine wpAnyH_done (by kernel_rfl) ?_ _
      simp only [List.setIfInBounds_toArray]
      clear hown5 hown9 hgrow hbn hsn hb3 hb3' hb4 hb4' hb5 hb5' hb15 e15 hown hbw hz hH0 hH1 hH2 hH3 f1 f2 c1 hW hP hL
      go_wp2_with fail
      go_roundw
      case rel => exact ⟨k + 1, by omega, by go_num, by rw [HN.out]; exact hown1, hbw9⟩
      case measure => simp [intOf]; omega
    · obtain rfl : k = 4 := by omega
      have hown' := hown
      change OwnI w1.heap.size wr _ (nextL p) at hown'
      clear hown
      go_wp2_with fail
      go_ret
      exact ⟨_, hown'.mono hbw1.size, nx hbw1 hbw, rfl⟩
end Go.Proofs.YtlcepokenaiggaaGreatDoor
