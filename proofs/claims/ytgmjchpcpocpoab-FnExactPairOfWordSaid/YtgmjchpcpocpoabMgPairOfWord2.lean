/- FnExactPairOfWord: for every input the law returns true and leaves its arguments as they were. No conditions. -/
import Derived.Test.YtgmjchpcpocpoabMgPairOfWord1
import Derived.ProofKit
import Derived.OpenShut
import Derived.ShutString
import Derived.ChangeOld
import Derived.Below
/-! Times -/
namespace Go.Proofs.Ytgmjchpcpocpoab
open Go.RowKit

theorem keep_cell {w w' : World} {b o : Nat} {v : Value} (hb : Below w.heap.size w w') (h : w.cell? ⟨b, o, none⟩ = some v) : w'.cell? ⟨b, o, none⟩ = some v :=
  (hb.cell (p := ⟨b, o, none⟩) (World.block_lt_of_cell? _ _ h)).trans h

theorem treeOf_any (t : Tr) (w : World) (h : t.carets ≤ 1000) : Calls Try.prog 105 #[.string t.str] w (GivesNode t w) := by
  have hz := t.str_size
  have hp := place_any (t.str.size + 1) t.str
  rw [parse_str t _ (by have := t.text_len; omega)] at hp
  have hp' : ∀ w, Calls Try.prog 114 #[.string t.str] w (PlaceOk t [] t.str w) := fun w => hp w (by omega) (by omega)
  clear hz hp
  go_enter Try.func105, Try.ntmps105
  go_wp2_with fail
  refine (hp' _).mono ?_; rintro e w1 ⟨b1, s1, hs1, hz1, hn1, hb1, rfl⟩
  clear hs1 hz1
  go_wp2_with fail
  go_ret
  exact ⟨b1, hn1, hb1, rfl⟩

/-- What is asked of the factors of a product, and what its parts are. -/
theorem raw_len {p q : Pr} (hp : okP p) (hq : okP q) : (subsS p.2 (p.2.join q.1)).length = p.1.leaves ∧ (subsS q.1 (p.2.join q.1)).length = q.2.leaves := by
  have h1 := subsS_length p.2 _ (part_join p.2 q.1)
  have h2 := subsS_length q.1 _ (part_join' p.2 q.1)
  unfold okP Tr.leaves at *
  omega
theorem raw_fill1 {p q : Pr} (hp : okP p) (hq : okP q) : fillB p.1.str (subsS p.2 (p.2.join q.1)) = (rawP p q).1.str :=
  fillB_tr p.1 _ (by have := (raw_len hp hq).1; unfold subsS at this; simpa using this)
theorem raw_fill2 {p q : Pr} (hp : okP p) (hq : okP q) : fillB q.2.str (subsS q.1 (p.2.join q.1)) = (rawP p q).2.str :=
  fillB_tr q.2 _ (by have := (raw_len hp hq).2; unfold subsS at this; simpa using this)
theorem fillL_of {s : ByteArray} {us : List ByteArray} {t : Tr} (h : fillB s us = t.str) : fillL s.data.toList us = t.text := by
  have := congrArg (fun b : ByteArray => b.data.toList) h
  simpa [fillB, Tr.str] using this
theorem text_ne (t : Tr) : t.text ≠ [] := by cases t <;> simp [Tr.text]

theorem prFill_raw1 {p q : Pr} (hp : okP p) (hq : okP q) (h1 : p.1.carets ≤ 30) (h2 : q.1.carets ≤ 30) (b1 : Nat) (v : Value) (w : World) (hv : CellsS b1 w v (subsS p.2 (p.2.join q.1))) :
    Calls Try.prog 77 #[.string p.1.str, v] w (Gives (.string (rawP p q).1.str) w) := by
  have hl := raw_len hp hq
  have hr := rawP_carets hp hq
  have hj := join_carets p.2 q.1
  have ht := (rawP p q).1.text_len
  unfold okP at hp hq
  have hz := p.1.str_size
  unfold Tr.leaves at hl
  have := prFill_any b1 p.1.str v _ w (by omega) hv (by rw [Tr.str_list, text_dots]; omega) (by omega) (by rw [fillL_of (raw_fill1 hp hq)]; omega)
  rwa [raw_fill1 hp hq] at this

theorem prFill_raw2 {p q : Pr} (hp : okP p) (hq : okP q) (h1 : p.1.carets ≤ 30) (h2 : q.1.carets ≤ 30) (b1 : Nat) (v : Value) (w : World) (hv : CellsS b1 w v (subsS q.1 (p.2.join q.1))) :
    Calls Try.prog 77 #[.string q.2.str, v] w (Gives (.string (rawP p q).2.str) w) := by
  have hl := raw_len hp hq
  have hr := rawP_carets hp hq
  have hj := join_carets p.2 q.1
  have ht := (rawP p q).2.text_len
  unfold okP at hp hq
  have hz := q.2.str_size
  unfold Tr.leaves at hl
  have := prFill_any b1 q.2.str v _ w (by omega) hv (by rw [Tr.str_list, text_dots]; omega) (by omega) (by rw [fillL_of (raw_fill2 hp hq)]; omega)
  rwa [raw_fill2 hp hq] at this

theorem withLeaves_raw1 {p q : Pr} (hp : okP p) (hq : okP q) (h1 : p.1.carets ≤ 30) (h2 : q.1.carets ≤ 30) (b1 : Nat) (v : Value) (w : World) (hv : CellsS b1 w v (subsS p.2 (p.2.join q.1))) :
    Calls Try.prog 108 #[.string p.1.str, v] w (Gives (.string (rawP p q).1.str) w) := by
  have hl := raw_len hp hq
  have hr := rawP_carets hp hq
  have hj := join_carets p.2 q.1
  have ht := (rawP p q).1.text_len
  unfold okP at hp hq
  have hz := p.1.str_size
  unfold Tr.leaves at hl
  have := withLeaves_any b1 p.1.str v _ w (by omega) hv (by rw [Tr.str_list, text_dots]; omega) (by omega) (by rw [fillL_of (raw_fill1 hp hq)]; omega) (by rw [fillL_of (raw_fill1 hp hq)]; exact text_ne _)
  rwa [raw_fill1 hp hq] at this

theorem withLeaves_raw2 {p q : Pr} (hp : okP p) (hq : okP q) (h1 : p.1.carets ≤ 30) (h2 : q.1.carets ≤ 30) (b1 : Nat) (v : Value) (w : World) (hv : CellsS b1 w v (subsS q.1 (p.2.join q.1))) :
    Calls Try.prog 108 #[.string q.2.str, v] w (Gives (.string (rawP p q).2.str) w) := by
  have hl := raw_len hp hq
  have hr := rawP_carets hp hq
  have hj := join_carets p.2 q.1
  have ht := (rawP p q).2.text_len
  unfold okP at hp hq
  have hz := q.2.str_size
  unfold Tr.leaves at hl
  have := withLeaves_any b1 q.2.str v _ w (by omega) hv (by rw [Tr.str_list, text_dots]; omega) (by omega) (by rw [fillL_of (raw_fill2 hp hq)]; omega) (by rw [fillL_of (raw_fill2 hp hq)]; exact text_ne _)
  rwa [raw_fill2 hp hq] at this

set_option maxRecDepth 100000 in
set_option maxHeartbeats 4000000 in
theorem product_any (p q : Pr) (w : World) (hp : okP p) (hq : okP q) (h1 : p.1.carets ≤ 30) (h2 : q.1.carets ≤ 30) :
    Calls Try.prog 85 #[.agg #[.string p.1.str, .string p.2.str], .agg #[.string q.1.str, .string q.2.str]] w (Gives (.agg #[.string (mulP p q).1.str, .string (mulP p q).2.str]) w) := by
  have hr := rawP_carets hp hq
  have hj := join_carets p.2 q.1
  have hp' : p.1.carets = p.2.carets := hp
  have hq' : q.1.carets = q.2.carets := hq
  have T1 := fun w => treeOf_any p.2 w (by omega)
  have T2 := fun w => treeOf_any q.1 w (by omega)
  have W1 := fun b v w h => withLeaves_raw1 hp hq h1 h2 b v w h
  have W2 := fun b v w h => withLeaves_raw2 hp hq h1 h2 b v w h
  have RR : ∀ w, Calls Try.prog 107 #[.agg #[.string (rawP p q).1.str, .string (rawP p q).2.str], .func (Fn.func 110) #[] #[]] w (Gives (.agg #[.string (mulP p q).1.str, .string (mulP p q).2.str]) w) := fun w => reducedBy_first (rawP p q) w (by omega) (by omega)
  have PJ1 := part_join p.2 q.1
  have PJ2 := part_join' p.2 q.1
  have hjc : (p.2.join q.1).carets ≤ 60 := by omega
  clear hr hj
  go_enter Try.func85, Try.ntmps85
  go_wp2_with fail
  have hb0 : Below w.heap.size w (((w.alloc (.cells #[.string p.1.str, .string p.2.str] 30 (0, 0))).alloc (.cells #[.string q.1.str, .string q.2.str] 30 (0, 0))).alloc (.cells #[.string ⟨#[]⟩, .string ⟨#[]⟩] 30 (0, 0))) := nxAlloc (nxAlloc (nxAlloc (Below.refl _ _) _) _) _
  have hx0 := heap_keep (nxAlloc (Below.refl _ _) (.cells #[.string ⟨#[]⟩, .string ⟨#[]⟩] 30 (0, 0))) (heap_keep (nxAlloc (Below.refl _ _) (.cells #[.string q.1.str, .string q.2.str] 30 (0, 0))) (heap_alloc_at w (.cells #[.string p.1.str, .string p.2.str] 30 (0, 0))))
  have hx1 := heap_keep (nxAlloc (Below.refl _ _) (.cells #[.string ⟨#[]⟩, .string ⟨#[]⟩] 30 (0, 0))) (heap_alloc_at (w.alloc (.cells #[.string p.1.str, .string p.2.str] 30 (0, 0))) (.cells #[.string q.1.str, .string q.2.str] 30 (0, 0)))
  have hx2 := heap_alloc_at ((w.alloc (.cells #[.string p.1.str, .string p.2.str] 30 (0, 0))).alloc (.cells #[.string q.1.str, .string q.2.str] 30 (0, 0))) (.cells #[.string ⟨#[]⟩, .string ⟨#[]⟩] 30 (0, 0))
  generalize (((w.alloc (.cells #[.string p.1.str, .string p.2.str] 30 (0, 0))).alloc (.cells #[.string q.1.str, .string q.2.str] 30 (0, 0))).alloc (.cells #[.string ⟨#[]⟩, .string ⟨#[]⟩] 30 (0, 0))) = w0 at *
  have e1 : (w.alloc (.cells #[.string p.1.str, .string p.2.str] 30 (0, 0))).heap.size = w.heap.size + 1 := by simp
  rw [e1] at hx1
  clear e1
  have e2 : ((w.alloc (.cells #[.string p.1.str, .string p.2.str] 30 (0, 0))).alloc (.cells #[.string q.1.str, .string q.2.str] 30 (0, 0))).heap.size = w.heap.size + 1 + 1 := by simp
  rw [e2] at hx2
  clear e2
  obtain ⟨hx0a, hx0b, hx0c⟩ := two_facts hx0
  obtain ⟨hx0f, hx0g⟩ := two_frozen hx0
  obtain ⟨hx1a, hx1b, hx1c⟩ := two_facts hx1
  obtain ⟨hx1f, hx1g⟩ := two_frozen hx1
  obtain ⟨hx2a, hx2b, hx2c⟩ := two_facts hx2
  obtain ⟨hx2f, hx2g⟩ := two_frozen hx2
  have hz0 := Below.refl w0.heap.size w0
  go_region_held3 (fun w' => w'.cell? ⟨w.heap.size, 1, none⟩ = some (.string p.2.str) ∧ w'.cell? ⟨w.heap.size + 1, 0, none⟩ = some (.string q.1.str))
    (first
      | exact ⟨hx0b, hx1a⟩
      | exact ⟨A1, A2⟩
      | exact ⟨B1, B2⟩)
    (first
      | (go_at_call 105; (with_reducible refine (T1 _).mono ?_); rintro e w1 ⟨b1, hn1, hb1, rfl⟩; have hb1' := nx hz0.drew hb1; have A1 := keep_cell hb1' hx0b; have A2 := keep_cell hb1' hx1a)
      | (go_at_call 105; (with_reducible refine (T2 _).mono ?_); rintro e w2 ⟨b2, hn2, hb2, rfl⟩; have hb2' := nx hb1' hb2; have B1 := keep_cell hb2' hx0b; have B2 := keep_cell hb2' hx1a))
  go_wp2_with fail
  have hn1' := hn1.keep hb2
  refine (join_any p.2 q.1 b1 b2 _ hn1' hn2).mono ?_; rintro e w3 ⟨b3, hn3, hb3, rfl⟩
  have hbw3 := nx hb0 (nx hb2' hb3)
  have m1 := hn1'.keep hb3
  have m2 := hn2.keep hb3
  have hy0 := heap_keep (nx hb2' hb3) hx0
  have hy1 := heap_keep (nx hb2' hb3) hx1
  have hy2 := heap_keep (nx hb2' hb3) hx2
  have hb00 := Below.refl w3.heap.size w3
  clear hx0 hx1 hx2 hx0a hx0b hx0c hx0f hx0g hx1a hx1b hx1c hx1f hx1g hx2a hx2b hx2c hx2f hx2g A1 A2 B1 B2 hn1 hn2 hn1' hb1 hb2 hb1' hb2' hb3 hz0 hb0 T1 T2
  obtain ⟨k1, _⟩ := two_cells hy0
  obtain ⟨_, k2⟩ := two_cells hy1
  generalize hJ : p.2.join q.1 = J at *
  clear hJ
  go_wp2_with fail
  go_region_held3 (fun w' => w'.cell? ⟨w.heap.size, 0, none⟩ = some (.string p.1.str) ∧ w'.cell? ⟨w.heap.size + 1, 1, none⟩ = some (.string q.2.str))
    (first
      | exact ⟨k1, k2⟩
      | exact ⟨A1, A2⟩
      | exact ⟨B1, B2⟩
      | exact ⟨C1, C2⟩
      | exact ⟨D1, D2⟩
      | exact ⟨E1, E2⟩
      | exact ⟨G1, G2⟩)
    (first
      | (go_at_call_of 109 (some (⟨b1, 0, none⟩ : Addr)); refine (below_any p.2 J b1 b3 _ ?_ ?_ PJ1 hjc).mono ?_; exact m1.keep hb00.drew; exact hn3.keep hb00.drew; rintro e w4 ⟨g1, cap1, own1, hb4, rfl⟩; have hb4' := nx hb00.drew hb4; have A1 := keep_cell hb4' k1; have A2 := keep_cell hb4' k2)
      | (go_at_call_of 108 (some (⟨g1, 0, none⟩ : Addr)); refine (W1 _ _ _ own1.cells).mono ?_; rintro e w5 ⟨rfl, hb5⟩; have hb5' := nx hb4' hb5; have B1 := keep_cell hb5' k1; have B2 := keep_cell hb5' k2)
      | (go_at_call_of 109 (some (⟨b2, 0, none⟩ : Addr)); refine (below_any q.1 J b2 b3 _ ?_ ?_ PJ2 hjc).mono ?_; exact m2.keep hb5'; exact hn3.keep hb5'; rintro e w6 ⟨g2, cap2, own2, hb6, rfl⟩; have hb6' := nx hb5' hb6; have C1 := keep_cell hb6' k1; have C2 := keep_cell hb6' k2)
      | (go_at_call_of 108 (some (⟨g2, 0, none⟩ : Addr)); refine (W2 _ _ _ own2.cells).mono ?_; rintro e w7 ⟨rfl, hb7⟩; have hb7' := nx hb6' hb7; have D1 := keep_cell hb7' k1; have D2 := keep_cell hb7' k2)
      | (go_at_call 107; refine (RR _).mono ?_; rintro e w8 ⟨rfl, hb8⟩; have hb8' := nx hb7' hb8; have E1 := keep_cell hb8' k1; have E2 := keep_cell hb8' k2; have hz2 := heap_keep hb8' hy2; have hz0 := heap_keep hb8' hy0; have hz1 := heap_keep hb8' hy1; obtain ⟨n1, n2⟩ := two_cells hz2; obtain ⟨f1, f2⟩ := two_frozen hz2; have hq0 := (Below.heap_setCell (w8.setCell ⟨w.heap.size + 1 + 1, 0, none⟩ (.string (mulP p q).1.str)) ⟨w.heap.size + 1 + 1, 1, none⟩ (.string (mulP p q).2.str) w.heap.size (by show ¬ w.heap.size = w.heap.size + 1 + 1; omega)).trans ((Below.heap_setCell w8 ⟨w.heap.size + 1 + 1, 0, none⟩ (.string (mulP p q).1.str) w.heap.size (by show ¬ w.heap.size = w.heap.size + 1 + 1; omega)).trans hz0); have hq1 := (Below.heap_setCell (w8.setCell ⟨w.heap.size + 1 + 1, 0, none⟩ (.string (mulP p q).1.str)) ⟨w.heap.size + 1 + 1, 1, none⟩ (.string (mulP p q).2.str) (w.heap.size + 1) (by show ¬ w.heap.size + 1 = w.heap.size + 1 + 1; omega)).trans ((Below.heap_setCell w8 ⟨w.heap.size + 1 + 1, 0, none⟩ (.string (mulP p q).1.str) (w.heap.size + 1) (by show ¬ w.heap.size + 1 = w.heap.size + 1 + 1; omega)).trans hz1); have G1 := (two_cells hq0).1; have G2 := (two_cells hq1).2))
  go_wp2_with fail
  obtain ⟨q1, q2⟩ := two_cells (set_two (.string (mulP p q).1.str) (.string (mulP p q).2.str) hz2)
  refine bodyPost_ret (v := .agg #[.string (mulP p q).1.str, .string (mulP p q).2.str]) (by simp [q1, q2, results, Try.results85, go_sem]) rfl ⟨rfl, ?_⟩
  exact ((nx hbw3 hb8').setCell (by show w.heap.size ≤ w.heap.size + 1 + 1; omega) _).setCell (by show w.heap.size ≤ w.heap.size + 1 + 1; omega) _

set_option maxRecDepth 100000 in
set_option maxHeartbeats 4000000 in
theorem prTimes_any (p q : Pr) (w : World) (hp : okP p) (hq : okP q) (h1 : p.1.carets ≤ 30) (h2 : q.1.carets ≤ 30) :
    Calls Try.prog 40 #[.agg #[.string p.1.str, .string p.2.str], .agg #[.string q.1.str, .string q.2.str]] w (Gives (.agg #[.string (mulP p q).1.str, .string (mulP p q).2.str]) w) := by
  have hr := rawP_carets hp hq
  have hj := join_carets p.2 q.1
  have hp' : p.1.carets = p.2.carets := hp
  have hq' : q.1.carets = q.2.carets := hq
  have W1 := fun b v w h => prFill_raw1 hp hq h1 h2 b v w h
  have W2 := fun b v w h => prFill_raw2 hp hq h1 h2 b v w h
  have RR : ∀ w, Calls Try.prog 76 #[.agg #[.string (rawP p q).1.str, .string (rawP p q).2.str], .slice none 0 0] w (Gives (.agg #[.string (mulP p q).1.str, .string (mulP p q).2.str]) w) := fun w => prReduce_nil (rawP p q) w (by omega) (by omega)
  have P1 := fun w => prParts_any p.2 (p.2.join q.1) w (part_join p.2 q.1) (by omega)
  have P2 := fun w => prParts_any q.1 (p.2.join q.1) w (part_join' p.2 q.1) (by omega)
  have J := fun w => trJoin_any p.2 q.1 w (by omega) (by omega)
  clear hr hj
  go_enter Try.func40, Try.ntmps40
  go_wp2_with fail
  have hb0 : Below w.heap.size w (((w.alloc (.cells #[.string p.1.str, .string p.2.str] 30 (0, 0))).alloc (.cells #[.string q.1.str, .string q.2.str] 30 (0, 0))).alloc (.cells #[.string ⟨#[]⟩, .string ⟨#[]⟩] 30 (0, 0))) := nxAlloc (nxAlloc (nxAlloc (Below.refl _ _) _) _) _
  have hx0 := heap_keep (nxAlloc (Below.refl _ _) (.cells #[.string ⟨#[]⟩, .string ⟨#[]⟩] 30 (0, 0))) (heap_keep (nxAlloc (Below.refl _ _) (.cells #[.string q.1.str, .string q.2.str] 30 (0, 0))) (heap_alloc_at w (.cells #[.string p.1.str, .string p.2.str] 30 (0, 0))))
  have hx1 := heap_keep (nxAlloc (Below.refl _ _) (.cells #[.string ⟨#[]⟩, .string ⟨#[]⟩] 30 (0, 0))) (heap_alloc_at (w.alloc (.cells #[.string p.1.str, .string p.2.str] 30 (0, 0))) (.cells #[.string q.1.str, .string q.2.str] 30 (0, 0)))
  have hx2 := heap_alloc_at ((w.alloc (.cells #[.string p.1.str, .string p.2.str] 30 (0, 0))).alloc (.cells #[.string q.1.str, .string q.2.str] 30 (0, 0))) (.cells #[.string ⟨#[]⟩, .string ⟨#[]⟩] 30 (0, 0))
  generalize (((w.alloc (.cells #[.string p.1.str, .string p.2.str] 30 (0, 0))).alloc (.cells #[.string q.1.str, .string q.2.str] 30 (0, 0))).alloc (.cells #[.string ⟨#[]⟩, .string ⟨#[]⟩] 30 (0, 0))) = w0 at *
  have e1 : (w.alloc (.cells #[.string p.1.str, .string p.2.str] 30 (0, 0))).heap.size = w.heap.size + 1 := by simp
  rw [e1] at hx1
  clear e1
  have e2 : ((w.alloc (.cells #[.string p.1.str, .string p.2.str] 30 (0, 0))).alloc (.cells #[.string q.1.str, .string q.2.str] 30 (0, 0))).heap.size = w.heap.size + 1 + 1 := by simp
  rw [e2] at hx2
  clear e2
  obtain ⟨hx0a, hx0b, hx0c⟩ := two_facts hx0
  obtain ⟨hx0f, hx0g⟩ := two_frozen hx0
  obtain ⟨hx1a, hx1b, hx1c⟩ := two_facts hx1
  obtain ⟨hx1f, hx1g⟩ := two_frozen hx1
  obtain ⟨hx2a, hx2b, hx2c⟩ := two_facts hx2
  obtain ⟨hx2f, hx2g⟩ := two_frozen hx2
  refine (J _).mono ?_; rintro e w1 ⟨rfl, hb1⟩
  have hbw1 := nx hb0 hb1
  replace hx0 := heap_keep hb1 hx0
  replace hx1 := heap_keep hb1 hx1
  replace hx2 := heap_keep hb1 hx2
  clear hx0a hx0b hx0c hx0f hx0g
  obtain ⟨hx0a, hx0b, hx0c⟩ := two_facts hx0
  obtain ⟨hx0f, hx0g⟩ := two_frozen hx0
  clear hx1a hx1b hx1c hx1f hx1g
  obtain ⟨hx1a, hx1b, hx1c⟩ := two_facts hx1
  obtain ⟨hx1f, hx1g⟩ := two_frozen hx1
  clear hx2a hx2b hx2c hx2f hx2g
  obtain ⟨hx2a, hx2b, hx2c⟩ := two_facts hx2
  obtain ⟨hx2f, hx2g⟩ := two_frozen hx2
  clear hb1 hb0
  have hb00 := Below.refl w1.heap.size w1
  generalize p.2.join q.1 = G at *
  go_wp2_with fail
  go_region_held3 (fun w' => w'.cell? ⟨w.heap.size, 0, none⟩ = some (.string p.1.str) ∧ w'.cell? ⟨w.heap.size, 1, none⟩ = some (.string p.2.str) ∧ w'.cell? ⟨w.heap.size + 1, 0, none⟩ = some (.string q.1.str) ∧ w'.cell? ⟨w.heap.size + 1, 1, none⟩ = some (.string q.2.str))
    (first
      | exact ⟨hx0a, hx0b, hx1a, hx1b⟩
      | exact ⟨A1.1, A1.2, A2.1, A2.2⟩
      | exact ⟨B1.1, B1.2, B2.1, B2.2⟩
      | exact ⟨C1.1, C1.2, C2.1, C2.2⟩
      | exact ⟨D1.1, D1.2, D2.1, D2.2⟩
      | exact ⟨E1.1, E1.2, E2.1, E2.2⟩
      | exact ⟨G1.1, G1.2, G2.1, G2.2⟩)
    (first
      | (go_at_call 78; (with_reducible refine (P1 _).mono ?_); rintro e w4 ⟨g1, cap1, own1, hb4, rfl⟩; have hb4' := nx hb00.drew hb4; have A1 := two_cells (heap_keep hb4' hx0); have A2 := two_cells (heap_keep hb4' hx1))
      | (go_at_call_of 77 (some (⟨g1, 0, none⟩ : Addr)); refine (W1 _ _ _ own1.cells).mono ?_; rintro e w5 ⟨rfl, hb5⟩; have hb5' := nx hb4' hb5; have B1 := two_cells (heap_keep hb5' hx0); have B2 := two_cells (heap_keep hb5' hx1))
      | (go_at_call 78; (with_reducible refine (P2 _).mono ?_); rintro e w6 ⟨g2, cap2, own2, hb6, rfl⟩; have hb6' := nx hb5' hb6; have C1 := two_cells (heap_keep hb6' hx0); have C2 := two_cells (heap_keep hb6' hx1))
      | (go_at_call_of 77 (some (⟨g2, 0, none⟩ : Addr)); refine (W2 _ _ _ own2.cells).mono ?_; rintro e w7 ⟨rfl, hb7⟩; have hb7' := nx hb6' hb7; have D1 := two_cells (heap_keep hb7' hx0); have D2 := two_cells (heap_keep hb7' hx1))
      | (go_at_call 76; refine (RR _).mono ?_; rintro e w8 ⟨rfl, hb8⟩; have hb8' := nx hb7' hb8; have hz0 := heap_keep hb8' hx0; have hz1 := heap_keep hb8' hx1; have hz2 := heap_keep hb8' hx2; have E1 := two_cells hz0; have E2 := two_cells hz1; obtain ⟨n1, n2⟩ := two_cells hz2; obtain ⟨f1, f2⟩ := two_frozen hz2; have hq0 := (Below.heap_setCell (w8.setCell ⟨w.heap.size + 1 + 1, 0, none⟩ (.string (mulP p q).1.str)) ⟨w.heap.size + 1 + 1, 1, none⟩ (.string (mulP p q).2.str) w.heap.size (by show ¬ w.heap.size = w.heap.size + 1 + 1; omega)).trans ((Below.heap_setCell w8 ⟨w.heap.size + 1 + 1, 0, none⟩ (.string (mulP p q).1.str) w.heap.size (by show ¬ w.heap.size = w.heap.size + 1 + 1; omega)).trans hz0); have hq1 := (Below.heap_setCell (w8.setCell ⟨w.heap.size + 1 + 1, 0, none⟩ (.string (mulP p q).1.str)) ⟨w.heap.size + 1 + 1, 1, none⟩ (.string (mulP p q).2.str) (w.heap.size + 1) (by show ¬ (w.heap.size + 1) = w.heap.size + 1 + 1; omega)).trans ((Below.heap_setCell w8 ⟨w.heap.size + 1 + 1, 0, none⟩ (.string (mulP p q).1.str) (w.heap.size + 1) (by show ¬ (w.heap.size + 1) = w.heap.size + 1 + 1; omega)).trans hz1); have G1 := two_cells hq0; have G2 := two_cells hq1))
  go_wp2_with fail
  obtain ⟨q1, q2⟩ := two_cells (set_two (.string (mulP p q).1.str) (.string (mulP p q).2.str) hz2)
  refine bodyPost_ret (v := .agg #[.string (mulP p q).1.str, .string (mulP p q).2.str]) (by simp [q1, q2, results, Try.results40, go_sem]) rfl ⟨rfl, ?_⟩
  exact ((nx hbw1 hb8').setCell (by show w.heap.size ≤ w.heap.size + 1 + 1; omega) _).setCell (by show w.heap.size ≤ w.heap.size + 1 + 1; omega) _
end Go.Proofs.Ytgmjchpcpocpoab

/-! LimP -/
namespace Go.Proofs.Ytgmjchpcpocpoab
open Go.RowKit

/-- A pair, if its trees have no more carets than allowed. -/
def limP (p : Pr) : Option Pr := if p.1.carets ≤ 8 then some p else none
theorem treeOf_big {t : Tr} (h : 8 < t.carets) : treeOf t.str = none := by
  unfold treeOf
  rw [parse_str t _ (by have := t.str_size; have := t.text_len; omega)]
  show (if t.carets ≤ 8 then some t else none) = none
  rw [if_neg (by omega)]
theorem pairOf_lim {p : Pr} (h : okP p) : pairOf p.1.str p.2.str = limP p := by
  unfold limP
  by_cases hc : p.1.carets ≤ 8
  · rw [if_pos hc, pairOf_str h hc]
  · rw [if_neg hc]
    unfold pairOf
    rw [treeOf_big (by omega)]

set_option maxHeartbeats 1000000 in
theorem pairLimit_any (p : Pr) (w : World) :
    Calls Try.prog 84 #[.agg #[.string p.1.str, .string p.2.str]] w (Gives (ansPr (limP p)) w) := by
  have hg : ∀ w, Calls Try.prog 92 #[.string p.1.str] w (Gives (ansV (lim p.1)) w) := fun w => (limit_any p.1 w).mono fun _ _ ⟨h1, h2⟩ => ⟨h1, by rw [← h2]; exact Below.refl _ _⟩
  unfold lim at hg
  unfold limP
  by_cases h : p.1.carets ≤ 8
  · rw [if_pos h] at hg ⊢
    have hg' : ∀ w, Calls Try.prog 92 #[.string p.1.str] w (Gives (.tuple #[.string p.1.str, .bool true]) w) := hg
    clear hg h
    go_enter Try.func84, Try.ntmps84
    go_wp2_with fail
    have hb0 : Below w.heap.size w ((w.alloc (.cells #[.string p.1.str, .string p.2.str] 30 (0, 0))).alloc (.cells #[.string ⟨#[]⟩, .string ⟨#[]⟩] 30 (0, 0))) := nxAlloc (nxAlloc (Below.refl _ _) _) _
    have hx0 := heap_keep (nxAlloc (Below.refl _ _) (.cells #[.string ⟨#[]⟩, .string ⟨#[]⟩] 30 (0, 0))) (heap_alloc_at w (.cells #[.string p.1.str, .string p.2.str] 30 (0, 0)))
    have hx1 := heap_alloc_at (w.alloc (.cells #[.string p.1.str, .string p.2.str] 30 (0, 0))) (.cells #[.string ⟨#[]⟩, .string ⟨#[]⟩] 30 (0, 0))
    generalize ((w.alloc (.cells #[.string p.1.str, .string p.2.str] 30 (0, 0))).alloc (.cells #[.string ⟨#[]⟩, .string ⟨#[]⟩] 30 (0, 0))) = w0 at *
    have e1 : (w.alloc (.cells #[.string p.1.str, .string p.2.str] 30 (0, 0))).heap.size = w.heap.size + 1 := by simp
    rw [e1] at hx1
    clear e1
    obtain ⟨hx0a, hx0b, hx0c⟩ := two_facts hx0
    obtain ⟨hx0f, hx0g⟩ := two_frozen hx0
    obtain ⟨hx1a, hx1b, hx1c⟩ := two_facts hx1
    obtain ⟨hx1f, hx1g⟩ := two_frozen hx1
    refine (hg' _).mono ?_; rintro e w1 ⟨rfl, hb1⟩
    have hbw1 := nx hb0 hb1
    replace hx0 := heap_keep hb1 hx0
    replace hx1 := heap_keep hb1 hx1
    clear hx0a hx0b hx0c hx0f hx0g
    obtain ⟨hx0a, hx0b, hx0c⟩ := two_facts hx0
    obtain ⟨hx0f, hx0g⟩ := two_frozen hx0
    clear hx1a hx1b hx1c hx1f hx1g
    obtain ⟨hx1a, hx1b, hx1c⟩ := two_facts hx1
    obtain ⟨hx1f, hx1g⟩ := two_frozen hx1
    clear hb1 hb0
    go_wp2_with fail
    obtain ⟨q1, q2⟩ := two_cells (set_two (.string p.1.str) (.string p.2.str) hx1)
    refine bodyPost_ret (v := .tuple #[.agg #[.string p.1.str, .string p.2.str], .bool true]) (by simp [q1, q2, results, Try.results84, go_sem]) rfl ⟨rfl, ?_⟩
    exact (hbw1.setCell (by show w.heap.size ≤ w.heap.size + 1; omega) _).setCell (by show w.heap.size ≤ w.heap.size + 1; omega) _
  · rw [if_neg h] at hg ⊢
    have hg' : ∀ w, Calls Try.prog 92 #[.string p.1.str] w (Gives (.tuple #[.string ⟨#[]⟩, .bool false]) w) := hg
    clear hg h
    go_enter Try.func84, Try.ntmps84
    go_wp2_with fail
    have hb0 : Below w.heap.size w ((w.alloc (.cells #[.string p.1.str, .string p.2.str] 30 (0, 0))).alloc (.cells #[.string ⟨#[]⟩, .string ⟨#[]⟩] 30 (0, 0))) := nxAlloc (nxAlloc (Below.refl _ _) _) _
    have hx0 := heap_keep (nxAlloc (Below.refl _ _) (.cells #[.string ⟨#[]⟩, .string ⟨#[]⟩] 30 (0, 0))) (heap_alloc_at w (.cells #[.string p.1.str, .string p.2.str] 30 (0, 0)))
    have hx1 := heap_alloc_at (w.alloc (.cells #[.string p.1.str, .string p.2.str] 30 (0, 0))) (.cells #[.string ⟨#[]⟩, .string ⟨#[]⟩] 30 (0, 0))
    generalize ((w.alloc (.cells #[.string p.1.str, .string p.2.str] 30 (0, 0))).alloc (.cells #[.string ⟨#[]⟩, .string ⟨#[]⟩] 30 (0, 0))) = w0 at *
    have e1 : (w.alloc (.cells #[.string p.1.str, .string p.2.str] 30 (0, 0))).heap.size = w.heap.size + 1 := by simp
    rw [e1] at hx1
    clear e1
    obtain ⟨hx0a, hx0b, hx0c⟩ := two_facts hx0
    obtain ⟨hx0f, hx0g⟩ := two_frozen hx0
    obtain ⟨hx1a, hx1b, hx1c⟩ := two_facts hx1
    obtain ⟨hx1f, hx1g⟩ := two_frozen hx1
    refine (hg' _).mono ?_; rintro e w1 ⟨rfl, hb1⟩
    have hbw1 := nx hb0 hb1
    replace hx0 := heap_keep hb1 hx0
    replace hx1 := heap_keep hb1 hx1
    clear hx0a hx0b hx0c hx0f hx0g
    obtain ⟨hx0a, hx0b, hx0c⟩ := two_facts hx0
    obtain ⟨hx0f, hx0g⟩ := two_frozen hx0
    clear hx1a hx1b hx1c hx1f hx1g
    obtain ⟨hx1a, hx1b, hx1c⟩ := two_facts hx1
    obtain ⟨hx1f, hx1g⟩ := two_frozen hx1
    clear hb1 hb0
    go_wp2_with fail
    obtain ⟨q1, q2⟩ := two_cells (set_two (.string ⟨#[]⟩) (.string ⟨#[]⟩) hx1)
    refine bodyPost_ret (v := .tuple #[.agg #[.string ⟨#[]⟩, .string ⟨#[]⟩], .bool false]) (by simp [q1, q2, results, Try.results84, go_sem]) rfl ⟨rfl, ?_⟩
    exact (hbw1.setCell (by show w.heap.size ≤ w.heap.size + 1; omega) _).setCell (by show w.heap.size ≤ w.heap.size + 1; omega) _
end Go.Proofs.Ytgmjchpcpocpoab

/-! Unit -/
namespace Go.Proofs.Ytgmjchpcpocpoab
open Go.RowKit

/-- The pair of two leaves. -/
def unitP : Pr := (.lf, .lf)
/-- The product of so many, if none on the way is too great. -/
def pwN (b : Pr) : Nat → Option Pr
  | 0 => some unitP
  | k + 1 => (pwN b k).bind fun o => limP (mulP o b)
def powP (p : Pr) (k : Int) : Option Pr := if -10 ≤ k ∧ k ≤ 10 then (if k < 0 then pwN (invP p) (-k).toNat else pwN p k.toNat) else none

theorem limP_some {p q : Pr} (h : limP p = some q) : q = p ∧ p.1.carets ≤ 8 := by
  unfold limP at h
  split at h
  · next hc => injection h with h; exact ⟨h.symm, hc⟩
  · simp at h
theorem pwN_ok {b : Pr} (hb : okP b) : ∀ {k : Nat} {o : Pr}, pwN b k = some o → okP o ∧ o.1.carets ≤ 8 := by
  intro k
  induction k with
  | zero => intro o h; injection h with h; subst h; exact ⟨rfl, by decide⟩
  | succ k ih =>
    intro o h
    rw [pwN] at h
    cases h1 : pwN b k with
    | none => rw [h1] at h; simp at h
    | some q =>
      rw [h1] at h
      obtain ⟨e, hc⟩ := limP_some (show limP (mulP q b) = some o from h)
      rw [e]
      exact ⟨mulP_ok (ih h1).1 hb, hc⟩
theorem pwN_none {b : Pr} {k : Nat} (h : pwN b k = none) : ∀ j, k ≤ j → pwN b j = none := by
  intro j hj
  induction j with
  | zero => have : k = 0 := by omega
            subst this; exact h
  | succ j ih =>
    by_cases e : k = j + 1
    · rw [← e]; exact h
    · rw [pwN, ih (by omega)]; rfl

theorem prUnit_any (w : World) : Calls Try.prog 39 #[] w (Gives (.agg #[.string Tr.lf.str, .string Tr.lf.str]) w) := by
  go_enter Try.func39, Try.ntmps39
  go_wp2
  refine bodyPost_ret (v := .agg #[.string Tr.lf.str, .string Tr.lf.str]) (by simp [results, Try.results39, go_sem]; rfl) rfl ⟨rfl, ?_⟩
  exact nxAlloc (Below.refl _ _) _

theorem identity_any (w : World) : Calls Try.prog 43 #[] w (Gives (.agg #[.string Tr.lf.str, .string Tr.lf.str]) w) := by
  go_enter Try.func43, Try.ntmps43
  go_wp2
  refine bodyPost_ret (v := .agg #[.string Tr.lf.str, .string Tr.lf.str]) (by simp [results, Try.results43, go_sem]; rfl) rfl ⟨rfl, ?_⟩
  exact nxAlloc (Below.refl _ _) _
end Go.Proofs.Ytgmjchpcpocpoab

/-! Pw -/
namespace Go.Proofs.Ytgmjchpcpocpoab
open Go.RowKit

theorem genP_ok (i : Nat) : okP (genP i) ∧ (genP i).1.carets = i + 2 := by
  have h1 := graft_carets (rcomb i) (lcomb 2) i (by omega) (by simp [Tr.leaves, rcomb_carets]; omega)
  rw [rcomb_carets, lcomb_carets] at h1
  refine ⟨?_, h1⟩
  show (genP i).1.carets = (genP i).2.carets
  show ((rcomb i).graft i (lcomb 2)).carets = (rcomb (i + 2)).carets
  rw [h1, rcomb_carets]
/-- The pair of a letter. -/
def ltP (x : Int) : Pr := if x < 0 then invP (genP (num x).toNat) else genP (num x).toNat
theorem ltP_ok (x : Int) : okP (ltP x) ∧ (ltP x).1.carets = (num x).toNat + 2 := by
  have h := genP_ok (num x).toNat
  unfold ltP
  split
  · exact ⟨h.1.symm, by show (genP (num x).toNat).2.carets = _; rw [← h.2]; exact h.1.symm⟩
  · exact h

set_option maxHeartbeats 1000000 in
theorem wdLetter_any (x : Int) (w : World) (h0 : x ≠ 0) (h1 : -7 ≤ x) (h2 : x ≤ 7) :
    Calls Try.prog 41 #[.int .i64 x] w (Gives (.agg #[.string (ltP x).1.str, .string (ltP x).2.str]) w) := by
  by_cases hx : x < 0
  · obtain ⟨n, rfl⟩ : ∃ n : Nat, x = -((n : Int) + 1) := ⟨(-x - 1).toNat, by omega⟩
    have hn : (num (-((n : Int) + 1))).toNat = n := by unfold num; rw [if_pos hx]; omega
    unfold ltP
    rw [if_pos hx, hn]
    have hG := fun w => prGenerator_any n w (by omega)
    have hI := fun w => prInverse_any (genP n).1.str (genP n).2.str w
    have hd : (-((n : Int) + 1)) < 0 := hx
    have e1 : -(-((n : Int) + 1)) - 1 = (n : Int) := by omega
    show Calls _ _ _ _ (Gives (.agg #[.string (genP n).2.str, .string (genP n).1.str]) w)
    generalize (genP n).1.str = A at *
    generalize (genP n).2.str = B at *
    clear h0 hn hx
    go_enter Try.func41, Try.ntmps41
    go_wp2_with fail
    have hx0 := heap_alloc_at w (.cells #[.string ⟨#[]⟩, .string ⟨#[]⟩] 30 (0, 0))
    have hb0 := nxAlloc (Below.refl w.heap.size w) (.cells #[.string ⟨#[]⟩, .string ⟨#[]⟩] 30 (0, 0))
    generalize w.alloc (.cells #[.string ⟨#[]⟩, .string ⟨#[]⟩] 30 (0, 0)) = w0 at *
    obtain ⟨ka, kb, kc⟩ := two_facts hx0
    obtain ⟨kf, kg⟩ := two_frozen hx0
    refine (hG _).mono ?_; rintro e w1 ⟨rfl, hb1⟩
    replace hx0 := heap_keep hb1 hx0
    have hbw1 := nx hb0 hb1
    clear ka kb kc kf kg hb0 hb1 hG
    go_wp2_with fail
    refine (hI _).mono ?_; rintro e w2 ⟨rfl, hb2⟩
    replace hx0 := heap_keep hb2 hx0
    have hbw2 := nx hbw1 hb2
    obtain ⟨ka, kb, kc⟩ := two_facts hx0
    obtain ⟨kf, kg⟩ := two_frozen hx0
    clear hb2 hbw1 hI
    go_wp2_with fail
    obtain ⟨q1, q2⟩ := two_cells (set_two (.string B) (.string A) hx0)
    refine bodyPost_ret (v := .agg #[.string B, .string A]) (by simp [q1, q2, results, Try.results41, go_sem]) rfl ⟨rfl, ?_⟩
    exact (hbw2.setCell (Nat.le_refl _) _).setCell (Nat.le_refl _) _
  · obtain ⟨n, rfl⟩ : ∃ n : Nat, x = (n : Int) + 1 := ⟨(x - 1).toNat, by omega⟩
    have hn : (num ((n : Int) + 1)).toNat = n := by unfold num; rw [if_neg hx]; omega
    unfold ltP
    rw [if_neg hx, hn]
    have hG := fun w => prGenerator_any n w (by omega)
    have hd : (0 : Int) ≤ (n : Int) + 1 := by omega
    have e1 : (n : Int) + 1 - 1 = (n : Int) := by omega
    generalize (genP n).1.str = A at *
    generalize (genP n).2.str = B at *
    clear h0 hn hx
    go_enter Try.func41, Try.ntmps41
    go_wp2_with fail
    have hx0 := heap_alloc_at w (.cells #[.string ⟨#[]⟩, .string ⟨#[]⟩] 30 (0, 0))
    have hb0 := nxAlloc (Below.refl w.heap.size w) (.cells #[.string ⟨#[]⟩, .string ⟨#[]⟩] 30 (0, 0))
    generalize w.alloc (.cells #[.string ⟨#[]⟩, .string ⟨#[]⟩] 30 (0, 0)) = w0 at *
    refine (hG _).mono ?_; rintro e w1 ⟨rfl, hb1⟩
    replace hx0 := heap_keep hb1 hx0
    have hbw1 := nx hb0 hb1
    obtain ⟨ka, kb, kc⟩ := two_facts hx0
    obtain ⟨kf, kg⟩ := two_frozen hx0
    clear hb0 hb1 hG
    go_wp2_with fail
    obtain ⟨q1, q2⟩ := two_cells (set_two (.string A) (.string B) hx0)
    refine bodyPost_ret (v := .agg #[.string A, .string B]) (by simp [q1, q2, results, Try.results41, go_sem]) rfl ⟨rfl, ?_⟩
    exact (hbw1.setCell (Nat.le_refl _) _).setCell (Nat.le_refl _) _

/-- The answer of the program's letter. -/
def ltO (x : Int) : Option Pr := if num x ≤ 6 then some (ltP x) else none
set_option maxRecDepth 100000 in
set_option maxHeartbeats 2000000 in
theorem pairOfLetter_any (x : Int) (w : World) (h0 : x ≠ 0) (h1 : -21 ≤ x) (h2 : x ≤ 21) :
    Calls Try.prog 44 #[.int .i64 x] w (Gives (ansPr (ltO x)) w) := by
  have hN := fun w => numberOf_any x w (by omega) (by omega)
  have hn1 : 0 ≤ num x ∧ num x ≤ 20 := by unfold num; split <;> omega
  have hG := fun w => implGeneratorPair_any (num x) w (by omega) (by omega)
  have hans : ansPr (genO (num x)) = .tuple #[.agg #[.string (pS1 (genO (num x))), .string (pS2 (genO (num x)))], .bool (genO (num x)).isSome] := rfl
  simp only [hans] at hG
  have hfin : ansPr (ltO x) = if x < 0 then .tuple #[.agg #[.string (pS2 (genO (num x))), .string (pS1 (genO (num x)))], .bool (genO (num x)).isSome] else .tuple #[.agg #[.string (pS1 (genO (num x))), .string (pS2 (genO (num x)))], .bool (genO (num x)).isSome] := by
    by_cases h6 : num x ≤ 6
    · have e1 : ltO x = some (ltP x) := by unfold ltO; rw [if_pos h6]
      have e2 : genO (num x) = some (genP (num x).toNat) := by unfold genO; rw [if_pos ⟨hn1.1, h6⟩]
      rw [e1, e2]
      unfold ltP
      by_cases hx : x < 0
      · rw [if_pos hx, if_pos hx]; rfl
      · rw [if_neg hx, if_neg hx]; rfl
    · have e1 : ltO x = none := by unfold ltO; rw [if_neg h6]
      have e2 : genO (num x) = none := by unfold genO; rw [if_neg (fun h => h6 h.2)]
      rw [e1, e2]
      split <;> rfl
  rw [hfin]
  have hI := fun w => inverse_any (pS1 (genO (num x))) (pS2 (genO (num x))) w
  generalize pS1 (genO (num x)) = A at *
  generalize pS2 (genO (num x)) = B at *
  generalize (genO (num x)).isSome = ok at *
  clear hans hfin h0
  by_cases hx : x < 0
  · rw [if_pos hx]
    go_enter Try.func44, Try.ntmps44
    go_wp2_with fail
    have hx0 := heap_alloc_at w (.cells #[.string ⟨#[]⟩, .string ⟨#[]⟩] 30 (0, 0))
    have hb0 := nxAlloc (Below.refl w.heap.size w) (.cells #[.string ⟨#[]⟩, .string ⟨#[]⟩] 30 (0, 0))
    generalize w.alloc (.cells #[.string ⟨#[]⟩, .string ⟨#[]⟩] 30 (0, 0)) = w0 at *
    refine (hN _).mono ?_; rintro e w1 ⟨rfl, rfl⟩
    go_wp2_with fail
    refine (hG _).mono ?_; rintro e w1 ⟨rfl, hb1⟩
    replace hx0 := heap_keep hb1 hx0
    have hbw1 := nx hb0 hb1
    have hs1 : w.heap.size < w1.heap.size := lt_of_block hx0
    clear hb0 hb1 hG hN
    go_wp2_with fail
    have hy0 := heap_alloc_at w1 (.cells #[.string A, .string B] 30 (0, 0))
    replace hx0 := heap_keep (nxAlloc (Below.refl w1.heap.size w1) (.cells #[.string A, .string B] 30 (0, 0))) hx0
    have hbw2 := nxAlloc hbw1 (.cells #[.string A, .string B] 30 (0, 0))
    generalize w1.alloc (.cells #[.string A, .string B] 30 (0, 0)) = w2 at *
    obtain ⟨ka, kb, kc⟩ := two_facts hx0
    obtain ⟨kf, kg⟩ := two_frozen hx0
    obtain ⟨ya, yb, yc⟩ := two_facts hy0
    obtain ⟨yf, yg⟩ := two_frozen hy0
    clear hbw1
    go_wp2_with fail
    refine (hI _).mono ?_; rintro e w3 ⟨rfl, hb3⟩
    replace hx0 := heap_keep hb3 hx0
    replace hy0 := heap_keep hb3 hy0
    have hbw3 := nx hbw2 hb3
    clear ka kb kc kf kg ya yb yc yf yg hb3 hbw2 hI
    obtain ⟨ka, kb, kc⟩ := two_facts hx0
    obtain ⟨kf, kg⟩ := two_frozen hx0
    obtain ⟨yf, yg⟩ := two_frozen hy0
    obtain ⟨ya, yb, yc⟩ := two_facts hy0
    have hz0 := set_two (.string B) (.string A) hy0
    have hx1 : ((w3.setCell ⟨w1.heap.size, 0, none⟩ (.string B)).setCell ⟨w1.heap.size, 1, none⟩ (.string A)).heap[w.heap.size]? = some (.cells #[.string ⟨#[]⟩, .string ⟨#[]⟩] 30 (0, 0)) := by
      rw [Below.heap_setCell _ _ _ _ (by show w.heap.size ≠ w1.heap.size; omega), Below.heap_setCell _ _ _ _ (by show w.heap.size ≠ w1.heap.size; omega)]; exact hx0
    have hbw4 : Below w.heap.size w ((w3.setCell ⟨w1.heap.size, 0, none⟩ (.string B)).setCell ⟨w1.heap.size, 1, none⟩ (.string A)) := (hbw3.setCell (by show w.heap.size ≤ w1.heap.size; omega) _).setCell (by show w.heap.size ≤ w1.heap.size; omega) _
    have HZ := Lib.hid hz0
    have HX1 := Lib.hid hx1
    have HB4 := Lib.hid hbw4
    obtain ⟨za, zb, zc⟩ := two_facts hz0
    clear hz0 hx1 hbw4
    go_wp2_with fail
    obtain ⟨q1, q2⟩ := two_cells (set_two (.string B) (.string A) HX1.out)
    refine bodyPost_ret (v := .tuple #[.agg #[.string B, .string A], .bool ok]) (by simp [q1, q2, results, Try.results44, go_sem]) rfl ⟨rfl, ?_⟩
    exact (HB4.out.setCell (Nat.le_refl _) _).setCell (Nat.le_refl _) _
  · rw [if_neg hx]
    go_enter Try.func44, Try.ntmps44
    go_wp2_with fail
    have hx0 := heap_alloc_at w (.cells #[.string ⟨#[]⟩, .string ⟨#[]⟩] 30 (0, 0))
    have hb0 := nxAlloc (Below.refl w.heap.size w) (.cells #[.string ⟨#[]⟩, .string ⟨#[]⟩] 30 (0, 0))
    generalize w.alloc (.cells #[.string ⟨#[]⟩, .string ⟨#[]⟩] 30 (0, 0)) = w0 at *
    refine (hN _).mono ?_; rintro e w1 ⟨rfl, rfl⟩
    go_wp2_with fail
    refine (hG _).mono ?_; rintro e w1 ⟨rfl, hb1⟩
    replace hx0 := heap_keep hb1 hx0
    have hbw1 := nx hb0 hb1
    have hs1 : w.heap.size < w1.heap.size := lt_of_block hx0
    clear hb0 hb1 hG hN
    obtain ⟨ka, kb, kc⟩ := two_facts hx0
    obtain ⟨kf, kg⟩ := two_frozen hx0
    go_wp2_with fail
    have hx1 := heap_keep (nxAlloc (Below.refl _ _) (.cells #[.string A, .string B] 30 (0, 0))) (set_two (.string A) (.string B) hx0)
    have hbw2 := nxAlloc ((hbw1.setCell (p := ⟨w.heap.size, 0, none⟩) (Nat.le_refl _) (.string A)).setCell (p := ⟨w.heap.size, 1, none⟩) (Nat.le_refl _) (.string B)) (.cells #[.string A, .string B] 30 (0, 0))
    obtain ⟨q1, q2⟩ := two_cells hx1
    refine bodyPost_ret (v := .tuple #[.agg #[.string A, .string B], .bool ok]) (by simp [q1, q2, results, Try.results44, go_sem]) rfl ⟨rfl, ?_⟩
    exact hbw2
end Go.Proofs.Ytgmjchpcpocpoab

/-! Px -/
namespace Go.Proofs.Ytgmjchpcpocpoab
open Go.RowKit

theorem CellsI.keepB {b1 : Nat} {w w' : World} {v : Value} {xs : List Int} (h : CellsI b1 w v xs) (hb : Below w.heap.size w w') : CellsI b1 w' v xs := by
  rcases h with h | ⟨g, cap, h1, h2, h3, h4, h5, h6, h7⟩
  · exact .inl h
  · exact .inr ⟨g, cap, h1, h2, Nat.lt_of_lt_of_le h3 hb.size, h4, h5, fun i hi => (hb.cell (p := ⟨g, i, none⟩) h3).trans (h6 i hi), fun i => (hb.frozen (p := ⟨g, i, none⟩) h3).trans (h7 i)⟩
/-- One letter more of a product. -/
def stepPw (o : Option Pr) (x : Int) : Option Pr := o.bind fun p => if num x ≤ 6 then limP (mulP p (ltP x)) else none
def PairOfWord_o (L : List Int) : Option Pr := if goodW L = true then L.foldl stepPw (some unitP) else none
theorem stepPw_none : ∀ L : List Int, L.foldl stepPw none = none := by
  intro L
  induction L with
  | nil => rfl
  | cons x L ih => exact ih
theorem foldPw_at {L : List Int} {k : Nat} {o : Option Pr} (h : k < L.length) : (L.drop k).foldl stepPw o = (L.drop (k + 1)).foldl stepPw (stepPw o (L.getD k 0)) := by
  rw [List.drop_eq_getElem_cons h, List.foldl_cons]; simp [h]
theorem okL7 {x : Int} (h0 : x ≠ 0) : okL 7 x = true ↔ num x ≤ 6 := by
  rw [okL_iff]; unfold num; split <;> omega
theorem foldPw_far : ∀ (L : List Int) (o : Option Pr), (∀ x ∈ L, x ≠ 0) → isW 7 L = false → L.foldl stepPw o = none := by
  intro L
  induction L with
  | nil => intro o _ h; simp [isW] at h
  | cons x L ih =>
    intro o hnz h
    rw [List.foldl_cons]
    cases hx : okL 7 x with
    | false =>
      have : stepPw o x = none := by
        have h6 : ¬ num x ≤ 6 := fun h9 => by rw [(okL7 (hnz x (by simp))).2 h9] at hx; cases hx
        unfold stepPw
        cases o with
        | none => rfl
        | some p => simp [h6]
      rw [this, stepPw_none]
    | true =>
      refine ih _ (fun y hy => hnz y (by simp [hy])) ?_
      have h9 : isW 7 (x :: L) = (okL 7 x && isW 7 L) := rfl
      rw [h9, hx, Bool.true_and] at h
      exact h

set_option maxRecDepth 100000 in
set_option maxHeartbeats 4000000 in
theorem specPairOfWord_any (v : Value) (b1 : Nat) (L : List Int) (w : World) (hv : CellsI b1 w v L) (_hz : ∀ s ∈ L, -9223372036854775808 ≤ s ∧ s ≤ 9223372036854775807) :
    Calls Try.prog 16 #[v] w (Gives (ansPr (PairOfWord_o L)) w) := by
  have hG := fun w h => wdGood_any v b1 L w h
  have hJ := fun w h => wdIs_any v b1 L 6 w h (by omega) (by omega)
  have HV := Lib.hid hv
  unfold PairOfWord_o
  cases hg : goodW L with
  | false =>
    rw [if_neg (by simp)]
    simp only [hg] at hG
    clear hv _hz hg hJ
    go_enter Try.func16, Try.ntmps16
    go_wp2_with fail
    have hx0 := heap_alloc_at w (.cells #[.string ⟨#[]⟩, .string ⟨#[]⟩] 30 (0, 0))
    have hb0 := nxAlloc (Below.refl w.heap.size w) (.cells #[.string ⟨#[]⟩, .string ⟨#[]⟩] 30 (0, 0))
    generalize w.alloc (.cells #[.string ⟨#[]⟩, .string ⟨#[]⟩] 30 (0, 0)) = w0 at *
    obtain ⟨ka, kb, kc⟩ := two_facts hx0
    obtain ⟨kf, kg⟩ := two_frozen hx0
    refine (hG _ (HV.out.keepB hb0)).mono ?_; rintro e w1 ⟨rfl, rfl⟩
    go_wp2_with fail
    obtain ⟨q1, q2⟩ := two_cells (set_two (.string ⟨#[]⟩) (.string ⟨#[]⟩) hx0)
    refine bodyPost_ret (v := .tuple #[.agg #[.string ⟨#[]⟩, .string ⟨#[]⟩], .bool false]) (by simp [q1, q2, results, Try.results16, go_sem]) rfl ⟨rfl, ?_⟩
    exact (hb0.setCell (Nat.le_refl _) _).setCell (Nat.le_refl _) _
  | true =>
    rw [if_pos rfl]
    have hg2 := goodW_iff.1 hg
    simp only [hg] at hG
    cases h7 : isW 7 L with
    | false =>
      have hno := foldPw_far L (some unitP) (fun x hx => (hg2.2 x hx).1) h7
      rw [hno]
      simp only [show (6 : Int) + 1 = 7 from rfl, h7] at hJ
      clear hv _hz hg hg2 h7 hno
      go_enter Try.func16, Try.ntmps16
      go_wp2_with fail
      have hx0 := heap_alloc_at w (.cells #[.string ⟨#[]⟩, .string ⟨#[]⟩] 30 (0, 0))
      have hb0 := nxAlloc (Below.refl w.heap.size w) (.cells #[.string ⟨#[]⟩, .string ⟨#[]⟩] 30 (0, 0))
      generalize w.alloc (.cells #[.string ⟨#[]⟩, .string ⟨#[]⟩] 30 (0, 0)) = w0 at *
      obtain ⟨ka, kb, kc⟩ := two_facts hx0
      obtain ⟨kf, kg⟩ := two_frozen hx0
      refine (hG _ (HV.out.keepB hb0)).mono ?_; rintro e w1 ⟨rfl, rfl⟩
      go_wp2_with fail
      refine (hJ _ (HV.out.keepB hb0)).mono ?_; rintro e w1 ⟨rfl, rfl⟩
      go_wp2_with fail
      obtain ⟨q1, q2⟩ := two_cells (set_two (.string ⟨#[]⟩) (.string ⟨#[]⟩) hx0)
      refine bodyPost_ret (v := .tuple #[.agg #[.string ⟨#[]⟩, .string ⟨#[]⟩], .bool false]) (by simp [q1, q2, results, Try.results16, go_sem]) rfl ⟨rfl, ?_⟩
      exact (hb0.setCell (Nat.le_refl _) _).setCell (Nat.le_refl _) _
    | true =>
      simp only [show (6 : Int) + 1 = 7 from rfl, h7] at hJ
      have hz7 : ∀ x ∈ L, x ≠ 0 ∧ -7 ≤ x ∧ x ≤ 7 := fun x hx => okL_iff.1 (List.all_eq_true.1 h7 x hx)
      have HZ := Lib.hid hz7
      have hl20 := hg2.1
      obtain ⟨oa, cap, rfl, hcl, hcm, hcc⟩ := hv.form
      unfold maxLen at hcm
      have HC := Lib.hid hcc
      clear hv _hz hg hg2 h7 hz7 hcc
      go_enter Try.func16, Try.ntmps16
      go_wp2_with fail
      have hx0 := heap_alloc_at w (.cells #[.string ⟨#[]⟩, .string ⟨#[]⟩] 30 (0, 0))
      have hb0 := nxAlloc (Below.refl w.heap.size w) (.cells #[.string ⟨#[]⟩, .string ⟨#[]⟩] 30 (0, 0))
      generalize w.alloc (.cells #[.string ⟨#[]⟩, .string ⟨#[]⟩] 30 (0, 0)) = w0 at *
      obtain ⟨ka, kb, kc⟩ := two_facts hx0
      obtain ⟨kf, kg⟩ := two_frozen hx0
      refine (hG _ (HV.out.keepB hb0)).mono ?_; rintro e w1 ⟨rfl, rfl⟩
      go_wp2_with fail
      refine (hJ _ (HV.out.keepB hb0)).mono ?_; rintro e w1 ⟨rfl, rfl⟩
      clear hG hJ
      go_wp2_with fail
      refine (prUnit_any _).mono ?_; rintro e w2 ⟨rfl, hb2⟩
      replace hx0 := heap_keep hb2 hx0
      have hbw2 := nx hb0 hb2
      have hs2 : w.heap.size < w2.heap.size := lt_of_block hx0
      clear hb2 hb0
      go_wp2_with fail
      have hy0 := heap_alloc_at w2 (.cells #[.string Tr.lf.str, .string Tr.lf.str] 30 (0, 0))
      replace hx0 := heap_keep (nxAlloc (Below.refl w2.heap.size w2) (.cells #[.string Tr.lf.str, .string Tr.lf.str] 30 (0, 0))) hx0
      have hbw3 := nxAlloc hbw2 (.cells #[.string Tr.lf.str, .string Tr.lf.str] 30 (0, 0))
      generalize w2.alloc (.cells #[.string Tr.lf.str, .string Tr.lf.str] 30 (0, 0)) = w3 at *
      generalize w2.heap.size = bp at *
      clear hbw2
      go_loopw [19] (fun i wr => ∃ (k : Nat) (p : Pr), i = .int .i64 k ∧ k ≤ L.length ∧ okP p ∧ p.1.carets ≤ 8 ∧ wr.heap[bp]? = some (.cells #[.string p.1.str, .string p.2.str] 30 (0, 0)) ∧ wr.heap[w.heap.size]? = some (.cells #[.string ⟨#[]⟩, .string ⟨#[]⟩] 30 (0, 0)) ∧ Below w.heap.size w wr ∧ Hid (L.foldl stepPw (some unitP) = (L.drop k).foldl stepPw (some p))) (fun i _ => L.length - (intOf i).toNat)
      case atStart => exact ⟨0, unitP, rfl, Nat.zero_le _, rfl, Nat.zero_le _, hy0, hx0, hbw3, rfl⟩
      case round =>
        clear hy0 hx0 hbw3
        obtain ⟨k, p, rfl, hk, hok, hp8, hy, hx, hbw, he⟩ := hrel
        obtain ⟨ya, yb, yc⟩ := two_facts hy
        obtain ⟨yf, yg⟩ := two_frozen hy
        obtain ⟨xa, xb, xc⟩ := two_facts hx
        obtain ⟨xf, xg⟩ := two_frozen hx
        by_cases hlt : k < L.length
        · have hlt' : (k : Int) < (L.length : Int) := by omega
          obtain ⟨g, rfl, _, hgl, c1⟩ := HC.out k hlt
          replace c1 := (hbw.cell (p := ⟨g, k, none⟩) hgl).trans c1
          have hxm : L.getD k 0 ∈ L := by rw [List.getD_eq_getElem?_getD, List.getElem?_eq_getElem hlt]; exact List.getElem_mem _
          obtain ⟨h0, h1, h2⟩ := HZ.out _ hxm
          have hstep := foldPw_at (o := some p) hlt
          rw [← he.out] at hstep
          generalize L.getD k 0 = x at c1 h0 h1 h2 hstep
          have hn6 : num x ≤ 6 := by unfold num; split <;> omega
          have hlp := ltP_ok x
          have hst : stepPw (some p) x = limP (mulP p (ltP x)) := by unfold stepPw; simp [hn6]
          rw [hst] at hstep
          have hW := fun w => wdLetter_any x w h0 h1 h2
          have hT := fun w => prTimes_any p (ltP x) w hok hlp.1 (by omega) (by rw [hlp.2]; omega)
          have hmc := mulP_carets hok hlp.1
          have hok' : p.1.carets = p.2.carets := hok
          have hmo := mulP_ok hok hlp.1
          have hm16 : (mulP p (ltP x)).1.carets ≤ 30 := by rw [hlp.2] at hmc; omega
          have hcc2 := fun w => carets_str (mulP p (ltP x)).1 w (by omega)
          generalize mulP p (ltP x) = m at *
          generalize (ltP x).1.str = A at *
          generalize (ltP x).2.str = B at *
          have HS := Lib.hid hstep
          have HM : Hid (okP m) := hmo
          clear hxm he hgl hst hlp hn6 h0 h1 h2 hok hok' hmc hstep hmo
          go_wp2_with fail
          refine wp_region_clsT 4 (by kernel_rfl) (by kernel_rfl) ?_
          simp only [List.take_succ_cons, List.take_zero, List.drop_succ_cons, List.drop_zero]
          repeat (
            refine wpQuiet_step (fun K hK => ?_)
            go_simp
            first
              | (refine hK _ ?_; clear hK K)
              | (refine ⟨_, fun _ _ => rfl, hK _ ?_⟩; clear hK K)
              | (apply Exists.intro
                 refine ⟨fun w' hw' => ?_, hK _ ?_⟩
                 · first
                     | (go_at_call 41; exact hw'.call (hW _))
                     | (go_at_call 40; exact hw'.call (hT _))
                     | (rw [hw'.cell yc ya]; dsimp only [Result.andThen]; rw [hw'.cell yc yb]; exact ⟨rfl, rfl⟩)
                 clear hK K))
          refine wpQuiet_nil ?_
          intro w' hw'
          have hy1 := heap_keep hw' hy
          have hx1 := heap_keep hw' hx
          have hbw1 := nx hbw hw'
          clear ya yb yc yf yg xa xb xc xf xg hy hx hbw hw' hW hT
          obtain ⟨ya, yb, yc⟩ := two_facts hy1
          obtain ⟨yf, yg⟩ := two_frozen hy1
          have hy2 := set_two (.string m.1.str) (.string m.2.str) hy1
          have hx2 : ((w'.setCell ⟨bp, 0, none⟩ (.string m.1.str)).setCell ⟨bp, 1, none⟩ (.string m.2.str)).heap[w.heap.size]? = some (.cells #[.string ⟨#[]⟩, .string ⟨#[]⟩] 30 (0, 0)) := by
            rw [Below.heap_setCell _ _ _ _ (by show w.heap.size ≠ bp; omega), Below.heap_setCell _ _ _ _ (by show w.heap.size ≠ bp; omega)]; exact hx1
          have hbw2 : Below w.heap.size w ((w'.setCell ⟨bp, 0, none⟩ (.string m.1.str)).setCell ⟨bp, 1, none⟩ (.string m.2.str)) := (hbw1.setCell (by show w.heap.size ≤ bp; omega) _).setCell (by show w.heap.size ≤ bp; omega) _
          obtain ⟨xa, xb, xc⟩ := two_facts hx2
          obtain ⟨xf, xg⟩ := two_frozen hx2
          obtain ⟨y2a, y2b, y2c⟩ := two_facts hy2
          go_wp2_with fail
          generalize (w'.setCell ⟨bp, 0, none⟩ (.string m.1.str)).setCell ⟨bp, 1, none⟩ (.string m.2.str) = w9 at *
          refine (hcc2 _).mono ?_; rintro e w5 ⟨rfl, rfl⟩
          clear hcc2 ya yb yc yf yg hy1 hx1 hbw1
          by_cases h8 : m.1.carets ≤ 8
          · have hlm : limP m = some m := by unfold limP; rw [if_pos h8]
            have h8' : (m.1.carets : Int) ≤ 8 := by omega
            have h9 := HS.out
            rw [hlm] at h9
            have HS2 := Lib.hid h9
            clear hlm h9
            go_wp2_with fail
            go_roundw
            case rel => exact ⟨k + 1, m, by go_num, by omega, HM.out, h8, hy2, hx2, hbw2, HS2⟩
            case measure => simp [intOf]; omega
          · have hlm : limP m = none := by unfold limP; rw [if_neg h8]
            have h8' : (8 : Int) < m.1.carets := by omega
            have h9 := HS.out
            rw [hlm, stepPw_none] at h9
            have HS2 := Lib.hid h9
            clear hlm h9
            go_wp2_with fail
            obtain ⟨q1, q2⟩ := two_cells (set_two (.string ⟨#[]⟩) (.string ⟨#[]⟩) hx2)
            refine bodyPost_ret (v := .tuple #[.agg #[.string ⟨#[]⟩, .string ⟨#[]⟩], .bool false]) (by simp [q1, q2, results, Try.results16, go_sem]) rfl ⟨by rw [HS2.out]; rfl, ?_⟩
            exact (hbw2.setCell (Nat.le_refl _) _).setCell (Nat.le_refl _) _
        · obtain rfl : k = L.length := by omega
          have he' := he.out
          rw [List.drop_length] at he'
          have HE : Hid (L.foldl stepPw (some unitP) = some p) := he'
          clear he he'
          go_wp2_with fail
          obtain ⟨q1, q2⟩ := two_cells (set_two (.string p.1.str) (.string p.2.str) hx)
          refine bodyPost_ret (v := .tuple #[.agg #[.string p.1.str, .string p.2.str], .bool true]) (by simp [q1, q2, results, Try.results16, go_sem]) rfl ⟨by rw [HE.out]; rfl, ?_⟩
          exact (hbw.setCell (Nat.le_refl _) _).setCell (Nat.le_refl _) _
end Go.Proofs.Ytgmjchpcpocpoab

/-! ProdC -/
namespace Go.Proofs.Ytgmjchpcpocpoab
open Go.RowKit

set_option maxRecDepth 100000 in
set_option maxHeartbeats 2000000 in
theorem implProductPair_any (a b c d : ByteArray) (w : World) (ha : a.size ≤ 9223372036854775806) (hb : b.size ≤ 9223372036854775806) (hc : c.size ≤ 9223372036854775806) (hd : d.size ≤ 9223372036854775806) :
    Calls Try.prog 45 #[.agg #[.string a, .string b], .agg #[.string c, .string d]] w (Gives (ansPr ((pairOf a b).bind fun p => (pairOf c d).bind fun q => limP (mulP p q))) w) := by
  have hg := fun w => isPair_any a b w ha hb
  have hk := fun w => isPair_any c d w hc hd
  cases h : pairOf a b with
  | none =>
    rw [h] at hg
    clear h hk
    go_enter Try.func45, Try.ntmps45
    go_wp2_with fail
    have hb0 : Below w.heap.size w (((w.alloc (.cells #[.string a, .string b] 30 (0, 0))).alloc (.cells #[.string c, .string d] 30 (0, 0))).alloc (.cells #[.string ⟨#[]⟩, .string ⟨#[]⟩] 30 (0, 0))) := nxAlloc (nxAlloc (nxAlloc (Below.refl _ _) _) _) _
    have hx0 := heap_keep (nxAlloc (Below.refl _ _) (.cells #[.string ⟨#[]⟩, .string ⟨#[]⟩] 30 (0, 0))) (heap_keep (nxAlloc (Below.refl _ _) (.cells #[.string c, .string d] 30 (0, 0))) (heap_alloc_at w (.cells #[.string a, .string b] 30 (0, 0))))
    have hx1 := heap_keep (nxAlloc (Below.refl _ _) (.cells #[.string ⟨#[]⟩, .string ⟨#[]⟩] 30 (0, 0))) (heap_alloc_at (w.alloc (.cells #[.string a, .string b] 30 (0, 0))) (.cells #[.string c, .string d] 30 (0, 0)))
    have hx2 := heap_alloc_at ((w.alloc (.cells #[.string a, .string b] 30 (0, 0))).alloc (.cells #[.string c, .string d] 30 (0, 0))) (.cells #[.string ⟨#[]⟩, .string ⟨#[]⟩] 30 (0, 0))
    generalize (((w.alloc (.cells #[.string a, .string b] 30 (0, 0))).alloc (.cells #[.string c, .string d] 30 (0, 0))).alloc (.cells #[.string ⟨#[]⟩, .string ⟨#[]⟩] 30 (0, 0))) = w0 at *
    have e1 : (w.alloc (.cells #[.string a, .string b] 30 (0, 0))).heap.size = w.heap.size + 1 := by simp
    rw [e1] at hx1
    clear e1
    have e2 : ((w.alloc (.cells #[.string a, .string b] 30 (0, 0))).alloc (.cells #[.string c, .string d] 30 (0, 0))).heap.size = w.heap.size + 1 + 1 := by simp
    rw [e2] at hx2
    clear e2
    obtain ⟨hx0a, hx0b, hx0c⟩ := two_facts hx0
    obtain ⟨hx0f, hx0g⟩ := two_frozen hx0
    obtain ⟨hx1a, hx1b, hx1c⟩ := two_facts hx1
    obtain ⟨hx1f, hx1g⟩ := two_frozen hx1
    obtain ⟨hx2a, hx2b, hx2c⟩ := two_facts hx2
    obtain ⟨hx2f, hx2g⟩ := two_frozen hx2
    refine (hg _).mono ?_; rintro e w1 ⟨rfl, hb1⟩
    have hbw1 := nx hb0 hb1
    replace hx0 := heap_keep hb1 hx0
    replace hx1 := heap_keep hb1 hx1
    replace hx2 := heap_keep hb1 hx2
    clear hx0a hx0b hx0c hx0f hx0g
    obtain ⟨hx0a, hx0b, hx0c⟩ := two_facts hx0
    obtain ⟨hx0f, hx0g⟩ := two_frozen hx0
    clear hx1a hx1b hx1c hx1f hx1g
    obtain ⟨hx1a, hx1b, hx1c⟩ := two_facts hx1
    obtain ⟨hx1f, hx1g⟩ := two_frozen hx1
    clear hx2a hx2b hx2c hx2f hx2g
    obtain ⟨hx2a, hx2b, hx2c⟩ := two_facts hx2
    obtain ⟨hx2f, hx2g⟩ := two_frozen hx2
    clear hb1 hb0
    go_wp2_with fail
    obtain ⟨q1, q2⟩ := two_cells (set_two (.string ⟨#[]⟩) (.string ⟨#[]⟩) hx2)
    refine bodyPost_ret (v := .tuple #[.agg #[.string ⟨#[]⟩, .string ⟨#[]⟩], .bool false]) (by simp [q1, q2, results, Try.results45, go_sem]) rfl ⟨rfl, ?_⟩
    exact (hbw1.setCell (by show w.heap.size ≤ w.heap.size + 1 + 1; omega) _).setCell (by show w.heap.size ≤ w.heap.size + 1 + 1; omega) _
  | some p =>
    rw [h] at hg
    obtain ⟨rfl, rfl, hok1, hp1, hp2⟩ := pairOf_some h
    clear h
    cases k : pairOf c d with
    | none =>
      rw [k] at hk
      clear k
      go_enter Try.func45, Try.ntmps45
      go_wp2_with fail
      have hb0 : Below w.heap.size w (((w.alloc (.cells #[.string p.1.str, .string p.2.str] 30 (0, 0))).alloc (.cells #[.string c, .string d] 30 (0, 0))).alloc (.cells #[.string ⟨#[]⟩, .string ⟨#[]⟩] 30 (0, 0))) := nxAlloc (nxAlloc (nxAlloc (Below.refl _ _) _) _) _
      have hx0 := heap_keep (nxAlloc (Below.refl _ _) (.cells #[.string ⟨#[]⟩, .string ⟨#[]⟩] 30 (0, 0))) (heap_keep (nxAlloc (Below.refl _ _) (.cells #[.string c, .string d] 30 (0, 0))) (heap_alloc_at w (.cells #[.string p.1.str, .string p.2.str] 30 (0, 0))))
      have hx1 := heap_keep (nxAlloc (Below.refl _ _) (.cells #[.string ⟨#[]⟩, .string ⟨#[]⟩] 30 (0, 0))) (heap_alloc_at (w.alloc (.cells #[.string p.1.str, .string p.2.str] 30 (0, 0))) (.cells #[.string c, .string d] 30 (0, 0)))
      have hx2 := heap_alloc_at ((w.alloc (.cells #[.string p.1.str, .string p.2.str] 30 (0, 0))).alloc (.cells #[.string c, .string d] 30 (0, 0))) (.cells #[.string ⟨#[]⟩, .string ⟨#[]⟩] 30 (0, 0))
      generalize (((w.alloc (.cells #[.string p.1.str, .string p.2.str] 30 (0, 0))).alloc (.cells #[.string c, .string d] 30 (0, 0))).alloc (.cells #[.string ⟨#[]⟩, .string ⟨#[]⟩] 30 (0, 0))) = w0 at *
      have e1 : (w.alloc (.cells #[.string p.1.str, .string p.2.str] 30 (0, 0))).heap.size = w.heap.size + 1 := by simp
      rw [e1] at hx1
      clear e1
      have e2 : ((w.alloc (.cells #[.string p.1.str, .string p.2.str] 30 (0, 0))).alloc (.cells #[.string c, .string d] 30 (0, 0))).heap.size = w.heap.size + 1 + 1 := by simp
      rw [e2] at hx2
      clear e2
      obtain ⟨hx0a, hx0b, hx0c⟩ := two_facts hx0
      obtain ⟨hx0f, hx0g⟩ := two_frozen hx0
      obtain ⟨hx1a, hx1b, hx1c⟩ := two_facts hx1
      obtain ⟨hx1f, hx1g⟩ := two_frozen hx1
      obtain ⟨hx2a, hx2b, hx2c⟩ := two_facts hx2
      obtain ⟨hx2f, hx2g⟩ := two_frozen hx2
      refine (hg _).mono ?_; rintro e w1 ⟨rfl, hb1⟩
      have hbw1 := nx hb0 hb1
      replace hx0 := heap_keep hb1 hx0
      replace hx1 := heap_keep hb1 hx1
      replace hx2 := heap_keep hb1 hx2
      clear hx0a hx0b hx0c hx0f hx0g
      obtain ⟨hx0a, hx0b, hx0c⟩ := two_facts hx0
      obtain ⟨hx0f, hx0g⟩ := two_frozen hx0
      clear hx1a hx1b hx1c hx1f hx1g
      obtain ⟨hx1a, hx1b, hx1c⟩ := two_facts hx1
      obtain ⟨hx1f, hx1g⟩ := two_frozen hx1
      clear hx2a hx2b hx2c hx2f hx2g
      obtain ⟨hx2a, hx2b, hx2c⟩ := two_facts hx2
      obtain ⟨hx2f, hx2g⟩ := two_frozen hx2
      clear hb1 hb0
      go_wp2_with fail
      refine (hk _).mono ?_; rintro e w2 ⟨rfl, hb2⟩
      have hbw2 := nx hbw1 hb2
      replace hx0 := heap_keep hb2 hx0
      replace hx1 := heap_keep hb2 hx1
      replace hx2 := heap_keep hb2 hx2
      clear hx0a hx0b hx0c hx0f hx0g
      obtain ⟨hx0a, hx0b, hx0c⟩ := two_facts hx0
      obtain ⟨hx0f, hx0g⟩ := two_frozen hx0
      clear hx1a hx1b hx1c hx1f hx1g
      obtain ⟨hx1a, hx1b, hx1c⟩ := two_facts hx1
      obtain ⟨hx1f, hx1g⟩ := two_frozen hx1
      clear hx2a hx2b hx2c hx2f hx2g
      obtain ⟨hx2a, hx2b, hx2c⟩ := two_facts hx2
      obtain ⟨hx2f, hx2g⟩ := two_frozen hx2
      clear hb2 hbw1
      go_wp2_with fail
      obtain ⟨q1, q2⟩ := two_cells (set_two (.string ⟨#[]⟩) (.string ⟨#[]⟩) hx2)
      refine bodyPost_ret (v := .tuple #[.agg #[.string ⟨#[]⟩, .string ⟨#[]⟩], .bool false]) (by simp [q1, q2, results, Try.results45, go_sem]) rfl ⟨rfl, ?_⟩
      exact (hbw2.setCell (by show w.heap.size ≤ w.heap.size + 1 + 1; omega) _).setCell (by show w.heap.size ≤ w.heap.size + 1 + 1; omega) _
    | some q =>
      rw [k] at hk
      obtain ⟨rfl, rfl, hok2, hq1, hq2⟩ := pairOf_some k
      clear k
      show Calls _ _ _ _ (Gives (ansPr (limP (mulP p q))) w)
      have hm := mulP_ok hok1 hok2
      have hmc := mulP_carets hok1 hok2
      have hL := fun w => pairLimit_any (mulP p q) w
      generalize limP (mulP p q) = o at *
      unfold ansPr at *
      generalize pS1 o = X at *
      generalize pS2 o = Y at *
      generalize o.isSome = ok at *
      go_enter Try.func45, Try.ntmps45
      go_wp2_with fail
      have hb0 : Below w.heap.size w (((w.alloc (.cells #[.string p.1.str, .string p.2.str] 30 (0, 0))).alloc (.cells #[.string q.1.str, .string q.2.str] 30 (0, 0))).alloc (.cells #[.string ⟨#[]⟩, .string ⟨#[]⟩] 30 (0, 0))) := nxAlloc (nxAlloc (nxAlloc (Below.refl _ _) _) _) _
      have hx0 := heap_keep (nxAlloc (Below.refl _ _) (.cells #[.string ⟨#[]⟩, .string ⟨#[]⟩] 30 (0, 0))) (heap_keep (nxAlloc (Below.refl _ _) (.cells #[.string q.1.str, .string q.2.str] 30 (0, 0))) (heap_alloc_at w (.cells #[.string p.1.str, .string p.2.str] 30 (0, 0))))
      have hx1 := heap_keep (nxAlloc (Below.refl _ _) (.cells #[.string ⟨#[]⟩, .string ⟨#[]⟩] 30 (0, 0))) (heap_alloc_at (w.alloc (.cells #[.string p.1.str, .string p.2.str] 30 (0, 0))) (.cells #[.string q.1.str, .string q.2.str] 30 (0, 0)))
      have hx2 := heap_alloc_at ((w.alloc (.cells #[.string p.1.str, .string p.2.str] 30 (0, 0))).alloc (.cells #[.string q.1.str, .string q.2.str] 30 (0, 0))) (.cells #[.string ⟨#[]⟩, .string ⟨#[]⟩] 30 (0, 0))
      generalize (((w.alloc (.cells #[.string p.1.str, .string p.2.str] 30 (0, 0))).alloc (.cells #[.string q.1.str, .string q.2.str] 30 (0, 0))).alloc (.cells #[.string ⟨#[]⟩, .string ⟨#[]⟩] 30 (0, 0))) = w0 at *
      have e1 : (w.alloc (.cells #[.string p.1.str, .string p.2.str] 30 (0, 0))).heap.size = w.heap.size + 1 := by simp
      rw [e1] at hx1
      clear e1
      have e2 : ((w.alloc (.cells #[.string p.1.str, .string p.2.str] 30 (0, 0))).alloc (.cells #[.string q.1.str, .string q.2.str] 30 (0, 0))).heap.size = w.heap.size + 1 + 1 := by simp
      rw [e2] at hx2
      clear e2
      obtain ⟨hx0a, hx0b, hx0c⟩ := two_facts hx0
      obtain ⟨hx0f, hx0g⟩ := two_frozen hx0
      obtain ⟨hx1a, hx1b, hx1c⟩ := two_facts hx1
      obtain ⟨hx1f, hx1g⟩ := two_frozen hx1
      obtain ⟨hx2a, hx2b, hx2c⟩ := two_facts hx2
      obtain ⟨hx2f, hx2g⟩ := two_frozen hx2
      refine (hg _).mono ?_; rintro e w1 ⟨rfl, hb1⟩
      have hbw1 := nx hb0 hb1
      replace hx0 := heap_keep hb1 hx0
      replace hx1 := heap_keep hb1 hx1
      replace hx2 := heap_keep hb1 hx2
      clear hx0a hx0b hx0c hx0f hx0g
      obtain ⟨hx0a, hx0b, hx0c⟩ := two_facts hx0
      obtain ⟨hx0f, hx0g⟩ := two_frozen hx0
      clear hx1a hx1b hx1c hx1f hx1g
      obtain ⟨hx1a, hx1b, hx1c⟩ := two_facts hx1
      obtain ⟨hx1f, hx1g⟩ := two_frozen hx1
      clear hx2a hx2b hx2c hx2f hx2g
      obtain ⟨hx2a, hx2b, hx2c⟩ := two_facts hx2
      obtain ⟨hx2f, hx2g⟩ := two_frozen hx2
      clear hb1 hb0
      go_wp2_with fail
      refine (hk _).mono ?_; rintro e w2 ⟨rfl, hb2⟩
      have hbw2 := nx hbw1 hb2
      replace hx0 := heap_keep hb2 hx0
      replace hx1 := heap_keep hb2 hx1
      replace hx2 := heap_keep hb2 hx2
      clear hx0a hx0b hx0c hx0f hx0g
      obtain ⟨hx0a, hx0b, hx0c⟩ := two_facts hx0
      obtain ⟨hx0f, hx0g⟩ := two_frozen hx0
      clear hx1a hx1b hx1c hx1f hx1g
      obtain ⟨hx1a, hx1b, hx1c⟩ := two_facts hx1
      obtain ⟨hx1f, hx1g⟩ := two_frozen hx1
      clear hx2a hx2b hx2c hx2f hx2g
      obtain ⟨hx2a, hx2b, hx2c⟩ := two_facts hx2
      obtain ⟨hx2f, hx2g⟩ := two_frozen hx2
      clear hb2 hbw1
      go_wp2_with fail
      refine (product_any p q _ hok1 hok2 (by omega) (by omega)).mono ?_; rintro e w3 ⟨rfl, hb3⟩
      have hbw3 := nx hbw2 hb3
      replace hx0 := heap_keep hb3 hx0
      replace hx1 := heap_keep hb3 hx1
      replace hx2 := heap_keep hb3 hx2
      clear hx0a hx0b hx0c hx0f hx0g
      obtain ⟨hx0a, hx0b, hx0c⟩ := two_facts hx0
      obtain ⟨hx0f, hx0g⟩ := two_frozen hx0
      clear hx1a hx1b hx1c hx1f hx1g
      obtain ⟨hx1a, hx1b, hx1c⟩ := two_facts hx1
      obtain ⟨hx1f, hx1g⟩ := two_frozen hx1
      clear hx2a hx2b hx2c hx2f hx2g
      obtain ⟨hx2a, hx2b, hx2c⟩ := two_facts hx2
      obtain ⟨hx2f, hx2g⟩ := two_frozen hx2
      clear hb3 hbw2
      go_wp2_with fail
      refine (hL _).mono ?_; rintro e w4 ⟨rfl, hb4⟩
      have hbw4 := nx hbw3 hb4
      replace hx0 := heap_keep hb4 hx0
      replace hx1 := heap_keep hb4 hx1
      replace hx2 := heap_keep hb4 hx2
      clear hx0a hx0b hx0c hx0f hx0g
      obtain ⟨hx0a, hx0b, hx0c⟩ := two_facts hx0
      obtain ⟨hx0f, hx0g⟩ := two_frozen hx0
      clear hx1a hx1b hx1c hx1f hx1g
      obtain ⟨hx1a, hx1b, hx1c⟩ := two_facts hx1
      obtain ⟨hx1f, hx1g⟩ := two_frozen hx1
      clear hx2a hx2b hx2c hx2f hx2g
      obtain ⟨hx2a, hx2b, hx2c⟩ := two_facts hx2
      obtain ⟨hx2f, hx2g⟩ := two_frozen hx2
      clear hb4 hbw3
      go_wp2_with fail
      obtain ⟨q1, q2⟩ := two_cells (set_two (.string X) (.string Y) hx2)
      refine bodyPost_ret (v := .tuple #[.agg #[.string X, .string Y], .bool ok]) (by simp [q1, q2, results, Try.results45, go_sem]) rfl ⟨rfl, ?_⟩
      exact (hbw4.setCell (by show w.heap.size ≤ w.heap.size + 1 + 1; omega) _).setCell (by show w.heap.size ≤ w.heap.size + 1 + 1; omega) _
end Go.Proofs.Ytgmjchpcpocpoab

/-! Py -/
namespace Go.Proofs.Ytgmjchpcpocpoab
open Go.RowKit

theorem product_tr (p q : Pr) (w : World) (hp : okP p) (hq : okP q) (h1 : p.1.carets ≤ 8) (h2 : q.1.carets ≤ 8) :
    Calls Try.prog 45 #[.agg #[.string p.1.str, .string p.2.str], .agg #[.string q.1.str, .string q.2.str]] w (Gives (ansPr (limP (mulP p q))) w) := by
  have hp' : p.1.carets = p.2.carets := hp
  have hq' : q.1.carets = q.2.carets := hq
  have h := implProductPair_any p.1.str p.2.str q.1.str q.2.str w (by rw [Tr.str_size]; omega) (by rw [Tr.str_size]; omega) (by rw [Tr.str_size]; omega) (by rw [Tr.str_size]; omega)
  rw [pairOf_str hp h1, pairOf_str hq h2] at h
  exact h

set_option maxRecDepth 100000 in
set_option maxHeartbeats 4000000 in
theorem implPairOfWord_any (v : Value) (b1 : Nat) (L : List Int) (w : World) (hv : CellsI b1 w v L) (_hz : ∀ s ∈ L, -9223372036854775808 ≤ s ∧ s ≤ 9223372036854775807) :
    Calls Try.prog 17 #[v] w (Gives (ansPr (PairOfWord_o L)) w) := by
  have hG := fun w h => implIsWord_any v b1 L w h
  have HV := Lib.hid hv
  unfold PairOfWord_o
  cases hg : goodW L with
  | false =>
    rw [if_neg (by simp)]
    simp only [hg] at hG
    clear hv _hz hg
    go_enter Try.func17, Try.ntmps17
    go_wp2_with fail
    have hx0 := heap_alloc_at w (.cells #[.string ⟨#[]⟩, .string ⟨#[]⟩] 30 (0, 0))
    have hb0 := nxAlloc (Below.refl w.heap.size w) (.cells #[.string ⟨#[]⟩, .string ⟨#[]⟩] 30 (0, 0))
    generalize w.alloc (.cells #[.string ⟨#[]⟩, .string ⟨#[]⟩] 30 (0, 0)) = w0 at *
    obtain ⟨ka, kb, kc⟩ := two_facts hx0
    obtain ⟨kf, kg⟩ := two_frozen hx0
    refine (hG _ (HV.out.keepB hb0)).mono ?_; rintro e w1 ⟨rfl, rfl⟩
    go_wp2_with fail
    obtain ⟨q1, q2⟩ := two_cells (set_two (.string ⟨#[]⟩) (.string ⟨#[]⟩) hx0)
    refine bodyPost_ret (v := .tuple #[.agg #[.string ⟨#[]⟩, .string ⟨#[]⟩], .bool false]) (by simp [q1, q2, results, Try.results17, go_sem]) rfl ⟨rfl, ?_⟩
    exact (hb0.setCell (Nat.le_refl _) _).setCell (Nat.le_refl _) _
  | true =>
    rw [if_pos rfl]
    have hg2 := goodW_iff.1 hg
    simp only [hg] at hG
    have HZ := Lib.hid hg2.2
    have hl20 := hg2.1
    obtain ⟨oa, cap, rfl, hcl, hcm, hcc⟩ := hv.form
    unfold maxLen at hcm
    have HC := Lib.hid hcc
    clear hv _hz hg hg2 hcc
    go_enter Try.func17, Try.ntmps17
    go_wp2_with fail
    have hx0 := heap_alloc_at w (.cells #[.string ⟨#[]⟩, .string ⟨#[]⟩] 30 (0, 0))
    have hb0 := nxAlloc (Below.refl w.heap.size w) (.cells #[.string ⟨#[]⟩, .string ⟨#[]⟩] 30 (0, 0))
    generalize w.alloc (.cells #[.string ⟨#[]⟩, .string ⟨#[]⟩] 30 (0, 0)) = w0 at *
    obtain ⟨ka, kb, kc⟩ := two_facts hx0
    obtain ⟨kf, kg⟩ := two_frozen hx0
    refine (hG _ (HV.out.keepB hb0)).mono ?_; rintro e w1 ⟨rfl, rfl⟩
    clear hG
    go_wp2_with fail
    refine (identity_any _).mono ?_; rintro e w2 ⟨rfl, hb2⟩
    replace hx0 := heap_keep hb2 hx0
    have hbw2 := nx hb0 hb2
    have hs2 : w.heap.size < w2.heap.size := lt_of_block hx0
    clear hb2 hb0
    go_wp2_with fail
    have hy0 := heap_alloc_at w2 (.cells #[.string Tr.lf.str, .string Tr.lf.str] 30 (0, 0))
    replace hx0 := heap_keep (nxAlloc (Below.refl w2.heap.size w2) (.cells #[.string Tr.lf.str, .string Tr.lf.str] 30 (0, 0))) hx0
    have hbw3 := nxAlloc hbw2 (.cells #[.string Tr.lf.str, .string Tr.lf.str] 30 (0, 0))
    generalize w2.alloc (.cells #[.string Tr.lf.str, .string Tr.lf.str] 30 (0, 0)) = w3 at *
    generalize w2.heap.size = bp at *
    clear hbw2
    go_loopw [16] (fun i wr => ∃ (k : Nat) (p : Pr), i = .int .i64 k ∧ k ≤ L.length ∧ okP p ∧ p.1.carets ≤ 8 ∧ wr.heap[bp]? = some (.cells #[.string p.1.str, .string p.2.str] 30 (0, 0)) ∧ wr.heap[w.heap.size]? = some (.cells #[.string ⟨#[]⟩, .string ⟨#[]⟩] 30 (0, 0)) ∧ Below w.heap.size w wr ∧ Hid (L.foldl stepPw (some unitP) = (L.drop k).foldl stepPw (some p))) (fun i _ => L.length - (intOf i).toNat)
    case atStart => exact ⟨0, unitP, rfl, Nat.zero_le _, rfl, Nat.zero_le _, hy0, hx0, hbw3, rfl⟩
    case round =>
      clear hy0 hx0 hbw3
      obtain ⟨k, p, rfl, hk, hok, hp8, hy, hx, hbw, he⟩ := hrel
      by_cases hlt : k < L.length
      · have hlt' : (k : Int) < (L.length : Int) := by omega
        obtain ⟨g, rfl, _, hgl, c1⟩ := HC.out k hlt
        replace c1 := (hbw.cell (p := ⟨g, k, none⟩) hgl).trans c1
        have hxm : L.getD k 0 ∈ L := by rw [List.getD_eq_getElem?_getD, List.getElem?_eq_getElem hlt]; exact List.getElem_mem _
        obtain ⟨h0, h1, h2⟩ := HZ.out _ hxm
        have hstep := foldPw_at (o := some p) hlt
        rw [← he.out] at hstep
        generalize L.getD k 0 = x at c1 h0 h1 h2 hstep
        have hlp := ltP_ok x
        have hW := fun w => pairOfLetter_any x w h0 h1 h2
        by_cases hn6 : num x ≤ 6
        · have hst : stepPw (some p) x = limP (mulP p (ltP x)) := by unfold stepPw; simp [hn6]
          rw [hst] at hstep
          have hlo : ltO x = some (ltP x) := by unfold ltO; rw [if_pos hn6]
          rw [hlo] at hW
          have hn0 : 0 ≤ num x := by unfold num; split <;> omega
          have hT := fun w => product_tr p (ltP x) w hok hlp.1 hp8 (by rw [hlp.2]; omega)
          have hmo := mulP_ok hok hlp.1
          have hW' : ∀ w, Calls Try.prog 44 #[.int .i64 x] w (Gives (.tuple #[.agg #[.string (ltP x).1.str, .string (ltP x).2.str], .bool true]) w) := hW
          generalize mulP p (ltP x) = m at *
          generalize (ltP x).1.str = A at *
          generalize (ltP x).2.str = B at *
          have HM : Hid (okP m) := hmo
          clear hxm he hgl hst hlp hn6 h0 h1 h2 hmo hW hlo hn0
          go_wp2_with fail
          refine (hW' _).mono ?_; rintro e w5 ⟨rfl, hb5⟩
          replace hx := heap_keep hb5 hx
          replace hy := heap_keep hb5 hy
          have hbw5 := nx hbw hb5
          have hs5 : w.heap.size < w5.heap.size ∧ bp < w5.heap.size := ⟨lt_of_block hx, lt_of_block hy⟩
          obtain ⟨hs5a, hs5b⟩ := hs5
          clear hb5 hbw hW'
          obtain ⟨ya, yb, yc⟩ := two_facts hy
          go_wp2_with fail
          have hq := heap_alloc_at w5 (.cells #[.string A, .string B] 30 (0, 0))
          replace hx := heap_keep (nxAlloc (Below.refl w5.heap.size w5) (.cells #[.string A, .string B] 30 (0, 0))) hx
          replace hy := heap_keep (nxAlloc (Below.refl w5.heap.size w5) (.cells #[.string A, .string B] 30 (0, 0))) hy
          have hbw6 := nxAlloc hbw5 (.cells #[.string A, .string B] 30 (0, 0))
          generalize w5.alloc (.cells #[.string A, .string B] 30 (0, 0)) = w6 at *
          clear hbw5 ya yb yc
          refine (hT _).mono ?_; rintro e w7 ⟨rfl, hb7⟩
          replace hx := heap_keep hb7 hx
          replace hy := heap_keep hb7 hy
          have hbw7 := nx hbw6 hb7
          clear hb7 hbw6 hq hT
          obtain ⟨ya, yb, yc⟩ := two_facts hy
          obtain ⟨yf, yg⟩ := two_frozen hy
          have hbps : w.heap.size ≤ bp := by omega
          by_cases h8 : m.1.carets ≤ 8
          · have hlm : limP m = some m := by unfold limP; rw [if_pos h8]
            rw [hlm] at hstep ⊢
            have HS2 := Lib.hid hstep
            have hy2 := set_two (.string m.1.str) (.string m.2.str) hy
            have hx2 : ((w7.setCell ⟨bp, 0, none⟩ (.string m.1.str)).setCell ⟨bp, 1, none⟩ (.string m.2.str)).heap[w.heap.size]? = some (.cells #[.string ⟨#[]⟩, .string ⟨#[]⟩] 30 (0, 0)) := by
              rw [Below.heap_setCell _ _ _ _ (by show w.heap.size ≠ bp; omega), Below.heap_setCell _ _ _ _ (by show w.heap.size ≠ bp; omega)]; exact hx
            have hbw8 : Below w.heap.size w ((w7.setCell ⟨bp, 0, none⟩ (.string m.1.str)).setCell ⟨bp, 1, none⟩ (.string m.2.str)) := (hbw7.setCell hbps _).setCell hbps _
            have hans : ansPr (some m) = .tuple #[.agg #[.string m.1.str, .string m.2.str], .bool true] := rfl
            rw [hans]
            have HY := Lib.hid hy2
            have HX := Lib.hid hx2
            have HB := Lib.hid hbw8
            clear hlm hstep hans hy2 hx2 hbw8
            go_wp2_with fail
            go_roundw
            case rel => exact ⟨k + 1, m, by go_num, by omega, HM.out, h8, HY.out, HX.out, HB.out, HS2⟩
            case measure => simp [intOf]; omega
          · have hlm : limP m = none := by unfold limP; rw [if_neg h8]
            rw [hlm] at hstep ⊢
            rw [stepPw_none] at hstep
            have HS2 := Lib.hid hstep
            have hans : ansPr none = .tuple #[.agg #[.string ⟨#[]⟩, .string ⟨#[]⟩], .bool false] := rfl
            rw [hans]
            have hx2 : ((w7.setCell ⟨bp, 0, none⟩ (.string ⟨#[]⟩)).setCell ⟨bp, 1, none⟩ (.string ⟨#[]⟩)).heap[w.heap.size]? = some (.cells #[.string ⟨#[]⟩, .string ⟨#[]⟩] 30 (0, 0)) := by
              rw [Below.heap_setCell _ _ _ _ (by show w.heap.size ≠ bp; omega), Below.heap_setCell _ _ _ _ (by show w.heap.size ≠ bp; omega)]; exact hx
            have hbw8 : Below w.heap.size w ((w7.setCell ⟨bp, 0, none⟩ (.string ⟨#[]⟩)).setCell ⟨bp, 1, none⟩ (.string ⟨#[]⟩)) := (hbw7.setCell hbps _).setCell hbps _
            obtain ⟨xa, xb, xc⟩ := two_facts hx2
            obtain ⟨xf, xg⟩ := two_frozen hx2
            have HX := Lib.hid hx2
            clear hlm hstep hans hx2
            go_wp2_with fail
            obtain ⟨q1, q2⟩ := two_cells (set_two (.string ⟨#[]⟩) (.string ⟨#[]⟩) HX.out)
            refine bodyPost_ret (v := .tuple #[.agg #[.string ⟨#[]⟩, .string ⟨#[]⟩], .bool false]) (by simp [q1, q2, results, Try.results17, go_sem]) rfl ⟨by rw [HS2.out]; rfl, ?_⟩
            exact (hbw8.setCell (Nat.le_refl _) _).setCell (Nat.le_refl _) _
        · have hst : stepPw (some p) x = none := by unfold stepPw; simp [hn6]
          rw [hst, stepPw_none] at hstep
          have hlo : ltO x = none := by unfold ltO; rw [if_neg hn6]
          rw [hlo] at hW
          have hW' : ∀ w, Calls Try.prog 44 #[.int .i64 x] w (Gives (.tuple #[.agg #[.string ⟨#[]⟩, .string ⟨#[]⟩], .bool false]) w) := hW
          have HS2 := Lib.hid hstep
          clear hxm he hgl hst hlp hn6 h0 h1 h2 hW hlo hstep
          go_wp2_with fail
          refine (hW' _).mono ?_; rintro e w5 ⟨rfl, hb5⟩
          replace hx := heap_keep hb5 hx
          have hbw5 := nx hbw hb5
          obtain ⟨xa, xb, xc⟩ := two_facts hx
          obtain ⟨xf, xg⟩ := two_frozen hx
          clear hb5 hbw hW'
          go_wp2_with fail
          have hx1 := heap_keep (nxAlloc (Below.refl _ _) (.cells #[.string ⟨#[]⟩, .string ⟨#[]⟩] 30 (0, 0))) (set_two (.string ⟨#[]⟩) (.string ⟨#[]⟩) hx)
          have hbw6 := nxAlloc ((hbw5.setCell (p := ⟨w.heap.size, 0, none⟩) (Nat.le_refl _) (.string ⟨#[]⟩)).setCell (p := ⟨w.heap.size, 1, none⟩) (Nat.le_refl _) (.string ⟨#[]⟩)) (.cells #[.string ⟨#[]⟩, .string ⟨#[]⟩] 30 (0, 0))
          obtain ⟨q1, q2⟩ := two_cells hx1
          refine bodyPost_ret (v := .tuple #[.agg #[.string ⟨#[]⟩, .string ⟨#[]⟩], .bool false]) (by simp [q1, q2, results, Try.results17, go_sem]) rfl ⟨by rw [HS2.out]; rfl, ?_⟩
          exact hbw6
      · obtain rfl : k = L.length := by omega
        have he' := he.out
        rw [List.drop_length] at he'
        have HE : Hid (L.foldl stepPw (some unitP) = some p) := he'
        obtain ⟨ya, yb, yc⟩ := two_facts hy
        obtain ⟨xa, xb, xc⟩ := two_facts hx
        obtain ⟨xf, xg⟩ := two_frozen hx
        clear he he'
        go_wp2_with fail
        obtain ⟨q1, q2⟩ := two_cells (set_two (.string p.1.str) (.string p.2.str) hx)
        refine bodyPost_ret (v := .tuple #[.agg #[.string p.1.str, .string p.2.str], .bool true]) (by simp [q1, q2, results, Try.results17, go_sem]) rfl ⟨by rw [HE.out]; rfl, ?_⟩
        exact (hbw.setCell (Nat.le_refl _) _).setCell (Nat.le_refl _) _
end Go.Proofs.Ytgmjchpcpocpoab

/-! WPairOfWord -/
namespace Go.Proofs.Ytgmjchpcpocpoab
open Go.RowKit

set_option maxRecDepth 100000 in
set_option maxHeartbeats 2000000 in
theorem fnExactPairOfWord_law (w : World) (oa : Option Addr) (n cap : Nat) (L : List Int) (hl : L.length = n) (hl2 : (n : Int) ≤ 9223372036854775807) (_hz : ∀ s ∈ L, -9223372036854775808 ≤ s ∧ s ≤ 9223372036854775807) (hin : InI w oa L) :
    Calls Try.prog 4 #[.slice oa n cap] w fun e w' => e = .returned (.bool true) ∧ Below w.heap.size w w' := by
  have HI := Lib.hid hin
  have HL := Lib.hid hl
  clear hin hl
  by_cases hbig : (1048576 : Int) < n
  · clear _hz
    go_enter Try.func4, Try.ntmps4
    go_wp2_with fail
    go_ret
    exact ⟨rfl, Below.refl _ _⟩
  have hS : ∀ v b w, CellsI b w v L → Calls Try.prog 16 #[v] w (Gives (ansPr (PairOfWord_o L)) w) := fun v b w h => specPairOfWord_any v b L w h _hz
  have hI : ∀ v b w, CellsI b w v L → Calls Try.prog 17 #[v] w (Gives (ansPr (PairOfWord_o L)) w) := fun v b w h => implPairOfWord_any v b L w h _hz
  generalize PairOfWord_o L = o at hS hI
  unfold ansPr at hS hI
  generalize pS1 o = A at hS hI
  generalize pS2 o = B at hS hI
  generalize o.isSome = ok at hS hI
  clear o
  have hT := fun w h => toIntS_any oa cap n L w HL.out (by omega) h
  clear _hz
  go_enter Try.func4, Try.ntmps4
  go_wp2_with fail
  refine (hT _ HI.out).mono ?_; rintro e w1 ⟨pg, po, hb1, rfl⟩
  go_wp2_with fail
  refine (hS _ _ _ po.cells).mono ?_; rintro e w2 ⟨rfl, hb2⟩
  have hbw2 := nx hb1 hb2
  clear po hb1 hb2
  go_wp2_with fail
  have hbw3 := nxAlloc hbw2 (.cells #[.string A, .string B] 30 (0, 0))
  have hy := heap_alloc_at w2 (.cells #[.string A, .string B] 30 (0, 0))
  generalize w2.alloc (.cells #[.string A, .string B] 30 (0, 0)) = w3 at *
  clear hbw2
  refine (hT _ (HI.out.keep hbw3)).mono ?_; rintro e w4 ⟨qg, qo, hb4, rfl⟩
  have hbw4 := nx hbw3 hb4
  replace hy := heap_keep hb4 hy
  clear hb4 hbw3
  go_wp2_with fail
  refine (hI _ _ _ qo.cells).mono ?_; rintro e w5 ⟨rfl, hb5⟩
  have hbw5 := nx hbw4 hb5
  replace hy := heap_keep hb5 hy
  replace qo := qo.keep hb5
  clear hb5 hbw4
  obtain ⟨ya, yb, yc⟩ := two_facts hy
  obtain ⟨yf, yg⟩ := two_frozen hy
  go_wp2_with fail
  have hbw6 := nxAlloc hbw5 (.cells #[.string A, .string B] 30 (0, 0))
  replace hy := heap_keep (nxAlloc (Below.refl w5.heap.size w5) (.cells #[.string A, .string B] 30 (0, 0))) hy
  replace qo := OwnI.keep qo (nxAlloc (Below.refl w5.heap.size w5) (.cells #[.string A, .string B] 30 (0, 0)))
  have hz := heap_alloc_at w5 (.cells #[.string A, .string B] 30 (0, 0))
  generalize w5.alloc (.cells #[.string A, .string B] 30 (0, 0)) = w6 at *
  clear ya yb yc yf yg hbw5
  refine (eqPair_same A B _).mono ?_; rintro e w7 ⟨rfl, hb7⟩
  have hbw7 := nx hbw6 hb7
  replace qo := qo.keep hb7
  clear hb7 hbw6
  go_wp2_with fail
  refine (hT _ (HI.out.keep hbw7)).mono ?_; rintro e w8 ⟨rg, ro, hb8, rfl⟩
  have hbw8 := nx hbw7 hb8
  replace qo := qo.keep hb8
  clear hb8 hbw7
  go_wp2_with fail
  refine (eqIntS_any _ _ _ _ L _ qo.cells ro.cells).mono ?_; rintro e wz ⟨rfl, dz, rfl⟩
  go_wp2_with fail
  go_ret
  exact ⟨rfl, drewB hbw8 _⟩

theorem fnExactPairOfWord_walk (W : World) (a : Option Addr) (len cap : Nat) (z : List Int) (h : IsInts W a len cap z) :
    Calls Try.prog 4 #[.slice a len cap] W fun e w' => e = .returned (.bool true) ∧ Below W.heap.size W w' := by
  obtain ⟨h1, h2, h3, h4⟩ := h.inI
  exact fnExactPairOfWord_law W a len cap (z.take len) h2 h3 h4 h1
end Go.Proofs.Ytgmjchpcpocpoab

/-! LFnExactPairOfWord -/
namespace Go.Proofs.Ytgmjchpcpocpoab.fnExactPairOfWord
open Go.ChangeShapes Go.WideShapes Go.ChangeAt Go.RowKit
open Go.ChangeMaps (open_string shut_string)
set_option linter.unusedVariables false

theorem own : ownKnob Try.prog.godebug = none := by kernel_rfl
theorem laidOut : laidOutB Try.prog = true := by kernel_rfl

set_option maxRecDepth 100000 in
theorem lifted (os : Os) (started : os.Started) (H : Type) (enc : TypeId × Value → H) :
    ReturnsInHanded {} Try.checked os 4 .any (Rows.fnExactPairOfWordSpec.pre6 enc Try.prog Try.f4 Rows.fnExactPairOfWordRow.domain false) (Rows.fnExactPairOfWordSpec.post enc Try.prog Try.f4 false true false false) := by
  refine returnsInHanded_of_change (C := Try.checked) own started (by kernel_rfl) Try.func4
    (ChangeSpec.witness6 (enc := enc) (C := Try.checked) false ⟨#[], #[.slice none 0 0], []⟩ 8 (by kernel_rfl) (by kernel_rfl) (by kernel_rfl) (by kernel_rfl)) ?_
  intro W base args ds gs before hval0 hW hcnd _
  have hval : ∀ (j : Nat) t v, Try.f4.params[j]? = some t → args[j]? = some v → Value.okWide Try.prog W .any base t v := hval0
  have hW' := hW
  obtain ⟨p, q, hA0, hV, rfl, hfz, hnd⟩ := hW
  have hA : DataW.TrodAll enc Try.prog W 0 (fun _ => true) true Try.f4.params.toList args.toList ds p := hA0
  rw [Try.params4] at hA hval
  obtain ⟨v0, vs0, d0, ds0, p0, q0, hargs, rfl, rfl, h0, r0⟩ := trodAll_cons hA
  obtain ⟨rfl, rfl, rfl⟩ := trodAll_nil r0
  obtain rfl : args = #[v0] := by cases args; simp_all
  obtain ⟨rfl, rfl⟩ := trodVars_none hV
  obtain ⟨a0, len0, cap0, rfl⟩ := okWide_slice Try.underlying22 (hval 0 22 v0 rfl rfl)
  have k0 := h0
  have lt0 : ∀ x ∈ p0, x.block < W.heap.size := by obtain ⟨m, hm⟩ := k0; exact DataW.trod_lt m _ _ _ hm
  obtain ⟨z0, w0⟩ : ∃ zs, IsInts W a0 len0 cap0 zs := by
    obtain ⟨fuel, hf⟩ := h0
    rcases open_ints Try.underlying22 Try.underlying3 (by kernel_rfl) hf with ⟨hcs, _⟩ | ⟨x, l, c, zs, hcs, _, hl, hm, hz, _, hcell, hwz⟩
    · simp [Value.cells] at hcs
      obtain ⟨rfl, rfl, rfl⟩ := hcs
      exact ⟨[], .inl ⟨rfl, rfl, rfl, rfl⟩⟩
    · simp [Value.cells] at hcs
      obtain ⟨rfl, rfl, rfl⟩ := hcs
      exact ⟨zs, .inr ⟨_, rfl, hl, hm, by simpa using hz, hcell, hwz⟩⟩
  clear hA0 hval0
  simp only [List.append_nil] at hW'
  refine (fnExactPairOfWord_walk W a0 len0 cap0 z0 w0).mono fun e W' ⟨he, bel⟩ => ?_
  subst he
  exact ⟨_, rfl, _, _, _, [], _, [], hW', trodAll_mk1 (shut_bool Try.underlying4 _), (trodAll_cons_mk (Below.trod laidOut (by kernel_rfl) (of_decide_eq_true (by kernel_rfl)) k0 bel lt0) trodAll_mk0), rfl, bel.frame _, fun h => by cases h⟩

theorem over : Rows.fnExactPairOfWordRow.holds Try.pinned (OpenSpec.ofChange Rows.fnExactPairOfWordSpec) :=
  OpenClaim.holds_of_wide 4 Try.f4 rfl rfl rfl rfl rfl rfl rfl ⟨rfl, rfl, rfl, rfl, rfl⟩ rfl rfl rfl rfl rfl (by kernel_rfl) Try.func4 (by kernel_rfl)
    (of_decide_eq_true (by kernel_rfl)) (by unfold Func.isWrapper; first | (rw [if_pos (by decide +kernel)]; kernel_rfl) | (rw [if_neg (by decide +kernel)]; exact ⟨rfl, rfl⟩))
    (fun os started H enc _ => lifted os started H enc)

theorem proved : Rows.FnExactPairOfWordSaid := over
#print axioms proved
end Go.Proofs.Ytgmjchpcpocpoab.fnExactPairOfWord
