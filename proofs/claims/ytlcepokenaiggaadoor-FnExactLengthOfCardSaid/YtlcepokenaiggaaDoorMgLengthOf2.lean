/- FnExactLengthOf: for every input the law returns true and leaves its arguments as they were. No conditions. -/
import Derived.Test.YtlcepokenaiggaaDoorMgLengthOf1
import Derived.Lib.Bytealg
import Derived.Deep.AppendLies
import Derived.Lib.AppendIntMem
import Derived.Lib.LaidTab
import Derived.OpenVars
import Derived.ChangeVars
import Derived.Test.YtlcepokenaiggaaDoorCards
import Derived.Test.YtlcepokenaiggaaDoorTie
import Derived.LaidMore
import Derived.Lay
import Derived.SevenTiedAt
import Derived.Stop.Joined
import Derived.ProofKit
import Derived.OpenShut
import Derived.ShutString
import Derived.ChangeOld
import Derived.Below
import Derived.Lib.SmallJoins
/-! WReducePair -/
namespace Go.Proofs.YtlcepokenaiggaaDoor
open Go.RowKit

theorem prReduce_nil (p : Pr) (w : World) (h1 : p.1.carets ≤ 200) (h2 : p.2.carets ≤ 200) :
    Calls Tryd.prog 18 #[.agg #[.string p.1.str, .string p.2.str], .slice none 0 0] w (Gives (.agg #[.string (red p).1.str, .string (red p).2.str]) w) :=
  prReduce_any p _ [] 0 w h1 h2 (.inl ⟨rfl, rfl⟩) (fun c hc => by simp at hc)

set_option maxHeartbeats 1000000 in
theorem implReducePair_any (a b : ByteArray) (w : World) (ha : a.size ≤ 9223372036854775806) (hb : b.size ≤ 9223372036854775806) :
    Calls Tryd.prog 19 #[.agg #[.string a, .string b]] w (Gives (ansPr ((pairOf a b).bind fun p => some (red p))) w) := by
  have hg := fun w => isPair_any a b w ha hb
  cases h : pairOf a b with
  | none =>
    rw [h] at hg
    clear h
    go_enter Tryd.func19, Tryd.ntmps19
    go_wp2_with fail
    have hb0 : Below w.heap.size w ((w.alloc (.cells #[.string a, .string b] 29 (0, 0))).alloc (.cells #[.string ⟨#[]⟩, .string ⟨#[]⟩] 29 (0, 0))) := nxAlloc (nxAlloc (Below.refl _ _) _) _
    have hx0 := heap_keep (nxAlloc (Below.refl _ _) (.cells #[.string ⟨#[]⟩, .string ⟨#[]⟩] 29 (0, 0))) (heap_alloc_at w (.cells #[.string a, .string b] 29 (0, 0)))
    have hx1 := heap_alloc_at (w.alloc (.cells #[.string a, .string b] 29 (0, 0))) (.cells #[.string ⟨#[]⟩, .string ⟨#[]⟩] 29 (0, 0))
    generalize ((w.alloc (.cells #[.string a, .string b] 29 (0, 0))).alloc (.cells #[.string ⟨#[]⟩, .string ⟨#[]⟩] 29 (0, 0))) = w0 at *
    have e1 : (w.alloc (.cells #[.string a, .string b] 29 (0, 0))).heap.size = w.heap.size + 1 := by simp
    rw [e1] at hx1
    clear e1
    obtain ⟨hx0a, hx0b, hx0c⟩ := two_facts hx0
    obtain ⟨hx0f, hx0g⟩ := two_frozen hx0
    obtain ⟨hx1a, hx1b, hx1c⟩ := two_facts hx1
    obtain ⟨hx1f, hx1g⟩ := two_frozen hx1
    refine (hg _).mono ?_; rintro e w1 ⟨rfl, hb1⟩
    have hbw1 := nx hb0 hb1
    replace hx0 := heap_keep hb1 hx0
    replace hx1 := heap_keep hb1 hx1
    clear hx0a hx0b hx0c hx0f hx0g
    obtain ⟨hx0a, hx0b, hx0c⟩ := two_facts hx0
    obtain ⟨hx0f, hx0g⟩ := two_frozen hx0
    clear hx1a hx1b hx1c hx1f hx1g
    obtain ⟨hx1a, hx1b, hx1c⟩ := two_facts hx1
    obtain ⟨hx1f, hx1g⟩ := two_frozen hx1
    clear hb1 hb0
    go_wp2_with fail
    obtain ⟨q1, q2⟩ := two_cells (set_two (.string ⟨#[]⟩) (.string ⟨#[]⟩) hx1)
    refine bodyPost_ret (v := .tuple #[.agg #[.string ⟨#[]⟩, .string ⟨#[]⟩], .bool false]) (by simp [q1, q2, results, Tryd.results19, go_sem]) rfl ⟨rfl, ?_⟩
    exact (hbw1.setCell (by show w.heap.size ≤ w.heap.size + 1; omega) _).setCell (by show w.heap.size ≤ w.heap.size + 1; omega) _
  | some p =>
    rw [h] at hg
    obtain ⟨rfl, rfl, hok, hc1, hc2⟩ := pairOf_some h
    clear h
    show Calls _ _ _ _ (Gives (ansPr (some (red p))) w)
    go_enter Tryd.func19, Tryd.ntmps19
    go_wp2_with fail
    have hb0 : Below w.heap.size w ((w.alloc (.cells #[.string p.1.str, .string p.2.str] 29 (0, 0))).alloc (.cells #[.string ⟨#[]⟩, .string ⟨#[]⟩] 29 (0, 0))) := nxAlloc (nxAlloc (Below.refl _ _) _) _
    have hx0 := heap_keep (nxAlloc (Below.refl _ _) (.cells #[.string ⟨#[]⟩, .string ⟨#[]⟩] 29 (0, 0))) (heap_alloc_at w (.cells #[.string p.1.str, .string p.2.str] 29 (0, 0)))
    have hx1 := heap_alloc_at (w.alloc (.cells #[.string p.1.str, .string p.2.str] 29 (0, 0))) (.cells #[.string ⟨#[]⟩, .string ⟨#[]⟩] 29 (0, 0))
    generalize ((w.alloc (.cells #[.string p.1.str, .string p.2.str] 29 (0, 0))).alloc (.cells #[.string ⟨#[]⟩, .string ⟨#[]⟩] 29 (0, 0))) = w0 at *
    have e1 : (w.alloc (.cells #[.string p.1.str, .string p.2.str] 29 (0, 0))).heap.size = w.heap.size + 1 := by simp
    rw [e1] at hx1
    clear e1
    obtain ⟨hx0a, hx0b, hx0c⟩ := two_facts hx0
    obtain ⟨hx0f, hx0g⟩ := two_frozen hx0
    obtain ⟨hx1a, hx1b, hx1c⟩ := two_facts hx1
    obtain ⟨hx1f, hx1g⟩ := two_frozen hx1
    refine (hg _).mono ?_; rintro e w1 ⟨rfl, hb1⟩
    have hbw1 := nx hb0 hb1
    replace hx0 := heap_keep hb1 hx0
    replace hx1 := heap_keep hb1 hx1
    clear hx0a hx0b hx0c hx0f hx0g
    obtain ⟨hx0a, hx0b, hx0c⟩ := two_facts hx0
    obtain ⟨hx0f, hx0g⟩ := two_frozen hx0
    clear hx1a hx1b hx1c hx1f hx1g
    obtain ⟨hx1a, hx1b, hx1c⟩ := two_facts hx1
    obtain ⟨hx1f, hx1g⟩ := two_frozen hx1
    clear hb1 hb0
    go_wp2_with fail
    refine (reducedBy_first p _ (by omega) (by omega)).mono ?_; rintro e w2 ⟨rfl, hb2⟩
    have hbw2 := nx hbw1 hb2
    replace hx0 := heap_keep hb2 hx0
    replace hx1 := heap_keep hb2 hx1
    clear hx0a hx0b hx0c hx0f hx0g
    obtain ⟨hx0a, hx0b, hx0c⟩ := two_facts hx0
    obtain ⟨hx0f, hx0g⟩ := two_frozen hx0
    clear hx1a hx1b hx1c hx1f hx1g
    obtain ⟨hx1a, hx1b, hx1c⟩ := two_facts hx1
    obtain ⟨hx1f, hx1g⟩ := two_frozen hx1
    clear hb2 hbw1
    go_wp2_with fail
    obtain ⟨q1, q2⟩ := two_cells (set_two (.string (red p).1.str) (.string (red p).2.str) hx1)
    refine bodyPost_ret (v := .tuple #[.agg #[.string (red p).1.str, .string (red p).2.str], .bool true]) (by simp [q1, q2, results, Tryd.results19, go_sem]) rfl ⟨rfl, ?_⟩
    exact (hbw2.setCell (by show w.heap.size ≤ w.heap.size + 1; omega) _).setCell (by show w.heap.size ≤ w.heap.size + 1; omega) _

end Go.Proofs.YtlcepokenaiggaaDoor

/-! Times -/
namespace Go.Proofs.YtlcepokenaiggaaDoor
open Go.RowKit

theorem keep_cell {w w' : World} {b o : Nat} {v : Value} (hb : Below w.heap.size w w') (h : w.cell? ⟨b, o, none⟩ = some v) : w'.cell? ⟨b, o, none⟩ = some v :=
  (hb.cell (p := ⟨b, o, none⟩) (World.block_lt_of_cell? _ _ h)).trans h

theorem treeOf_any (t : Tr) (w : World) (h : t.carets ≤ 1000) : Calls Tryd.prog 41 #[.string t.str] w (GivesNode t w) := by
  have hz := t.str_size
  have hp := place_any (t.str.size + 1) t.str
  rw [parse_str t _ (by have := t.text_len; omega)] at hp
  have hp' : ∀ w, Calls Tryd.prog 59 #[.string t.str] w (PlaceOk t [] t.str w) := fun w => hp w (by omega) (by omega)
  clear hz hp
  go_enter Tryd.func41, Tryd.ntmps41
  go_wp2_with fail
  refine (hp' _).mono ?_; rintro e w1 ⟨b1, s1, hs1, hz1, hn1, hb1, rfl⟩
  clear hs1 hz1
  go_wp2_with fail
  go_ret
  exact ⟨b1, hn1, hb1, rfl⟩

/-- What is asked of the factors of a product, and what its parts are. -/
theorem raw_len {p q : Pr} (hp : okP p) (hq : okP q) : (subsS p.2 (p.2.join q.1)).length = p.1.leaves ∧ (subsS q.1 (p.2.join q.1)).length = q.2.leaves := by
  have h1 := subsS_length p.2 _ (part_join p.2 q.1)
  have h2 := subsS_length q.1 _ (part_join' p.2 q.1)
  unfold okP Tr.leaves at *
  omega
theorem raw_fill1 {p q : Pr} (hp : okP p) (hq : okP q) : fillB p.1.str (subsS p.2 (p.2.join q.1)) = (rawP p q).1.str :=
  fillB_tr p.1 _ (by have := (raw_len hp hq).1; unfold subsS at this; simpa using this)
theorem raw_fill2 {p q : Pr} (hp : okP p) (hq : okP q) : fillB q.2.str (subsS q.1 (p.2.join q.1)) = (rawP p q).2.str :=
  fillB_tr q.2 _ (by have := (raw_len hp hq).2; unfold subsS at this; simpa using this)
theorem fillL_of {s : ByteArray} {us : List ByteArray} {t : Tr} (h : fillB s us = t.str) : fillL s.data.toList us = t.text := by
  have := congrArg (fun b : ByteArray => b.data.toList) h
  simpa [fillB, Tr.str] using this
theorem text_ne (t : Tr) : t.text ≠ [] := by cases t <;> simp [Tr.text]

theorem prFill_raw1 {p q : Pr} (hp : okP p) (hq : okP q) (h1 : p.1.carets ≤ 30) (h2 : q.1.carets ≤ 30) (b1 : Nat) (v : Value) (w : World) (hv : CellsS b1 w v (subsS p.2 (p.2.join q.1))) :
    Calls Tryd.prog 37 #[.string p.1.str, v] w (Gives (.string (rawP p q).1.str) w) := by
  have hl := raw_len hp hq
  have hr := rawP_carets hp hq
  have hj := join_carets p.2 q.1
  have ht := (rawP p q).1.text_len
  unfold okP at hp hq
  have hz := p.1.str_size
  unfold Tr.leaves at hl
  have := prFill_any b1 p.1.str v _ w (by omega) hv (by rw [Tr.str_list, text_dots]; omega) (by omega) (by rw [fillL_of (raw_fill1 hp hq)]; omega)
  rwa [raw_fill1 hp hq] at this

theorem prFill_raw2 {p q : Pr} (hp : okP p) (hq : okP q) (h1 : p.1.carets ≤ 30) (h2 : q.1.carets ≤ 30) (b1 : Nat) (v : Value) (w : World) (hv : CellsS b1 w v (subsS q.1 (p.2.join q.1))) :
    Calls Tryd.prog 37 #[.string q.2.str, v] w (Gives (.string (rawP p q).2.str) w) := by
  have hl := raw_len hp hq
  have hr := rawP_carets hp hq
  have hj := join_carets p.2 q.1
  have ht := (rawP p q).2.text_len
  unfold okP at hp hq
  have hz := q.2.str_size
  unfold Tr.leaves at hl
  have := prFill_any b1 q.2.str v _ w (by omega) hv (by rw [Tr.str_list, text_dots]; omega) (by omega) (by rw [fillL_of (raw_fill2 hp hq)]; omega)
  rwa [raw_fill2 hp hq] at this

theorem withLeaves_raw1 {p q : Pr} (hp : okP p) (hq : okP q) (h1 : p.1.carets ≤ 30) (h2 : q.1.carets ≤ 30) (b1 : Nat) (v : Value) (w : World) (hv : CellsS b1 w v (subsS p.2 (p.2.join q.1))) :
    Calls Tryd.prog 43 #[.string p.1.str, v] w (Gives (.string (rawP p q).1.str) w) := by
  have hl := raw_len hp hq
  have hr := rawP_carets hp hq
  have hj := join_carets p.2 q.1
  have ht := (rawP p q).1.text_len
  unfold okP at hp hq
  have hz := p.1.str_size
  unfold Tr.leaves at hl
  have := withLeaves_any b1 p.1.str v _ w (by omega) hv (by rw [Tr.str_list, text_dots]; omega) (by omega) (by rw [fillL_of (raw_fill1 hp hq)]; omega) (by rw [fillL_of (raw_fill1 hp hq)]; exact text_ne _)
  rwa [raw_fill1 hp hq] at this

theorem withLeaves_raw2 {p q : Pr} (hp : okP p) (hq : okP q) (h1 : p.1.carets ≤ 30) (h2 : q.1.carets ≤ 30) (b1 : Nat) (v : Value) (w : World) (hv : CellsS b1 w v (subsS q.1 (p.2.join q.1))) :
    Calls Tryd.prog 43 #[.string q.2.str, v] w (Gives (.string (rawP p q).2.str) w) := by
  have hl := raw_len hp hq
  have hr := rawP_carets hp hq
  have hj := join_carets p.2 q.1
  have ht := (rawP p q).2.text_len
  unfold okP at hp hq
  have hz := q.2.str_size
  unfold Tr.leaves at hl
  have := withLeaves_any b1 q.2.str v _ w (by omega) hv (by rw [Tr.str_list, text_dots]; omega) (by omega) (by rw [fillL_of (raw_fill2 hp hq)]; omega) (by rw [fillL_of (raw_fill2 hp hq)]; exact text_ne _)
  rwa [raw_fill2 hp hq] at this

set_option maxRecDepth 100000 in
set_option maxHeartbeats 4000000 in
theorem product_any (p q : Pr) (w : World) (hp : okP p) (hq : okP q) (h1 : p.1.carets ≤ 30) (h2 : q.1.carets ≤ 30) :
    Calls Tryd.prog 24 #[.agg #[.string p.1.str, .string p.2.str], .agg #[.string q.1.str, .string q.2.str]] w (Gives (.agg #[.string (mulP p q).1.str, .string (mulP p q).2.str]) w) := by
  have hr := rawP_carets hp hq
  have hj := join_carets p.2 q.1
  have hp' : p.1.carets = p.2.carets := hp
  have hq' : q.1.carets = q.2.carets := hq
  have T1 := fun w => treeOf_any p.2 w (by omega)
  have T2 := fun w => treeOf_any q.1 w (by omega)
  have W1 := fun b v w h => withLeaves_raw1 hp hq h1 h2 b v w h
  have W2 := fun b v w h => withLeaves_raw2 hp hq h1 h2 b v w h
  have RR : ∀ w, Calls Tryd.prog 33 #[.agg #[.string (rawP p q).1.str, .string (rawP p q).2.str], .func (Fn.func 34) #[] #[]] w (Gives (.agg #[.string (mulP p q).1.str, .string (mulP p q).2.str]) w) := fun w => reducedBy_first (rawP p q) w (by omega) (by omega)
  have PJ1 := part_join p.2 q.1
  have PJ2 := part_join' p.2 q.1
  have hjc : (p.2.join q.1).carets ≤ 60 := by omega
  clear hr hj
  go_enter Tryd.func24, Tryd.ntmps24
  go_wp2_with fail
  have hb0 : Below w.heap.size w (((w.alloc (.cells #[.string p.1.str, .string p.2.str] 29 (0, 0))).alloc (.cells #[.string q.1.str, .string q.2.str] 29 (0, 0))).alloc (.cells #[.string ⟨#[]⟩, .string ⟨#[]⟩] 29 (0, 0))) := nxAlloc (nxAlloc (nxAlloc (Below.refl _ _) _) _) _
  have hx0 := heap_keep (nxAlloc (Below.refl _ _) (.cells #[.string ⟨#[]⟩, .string ⟨#[]⟩] 29 (0, 0))) (heap_keep (nxAlloc (Below.refl _ _) (.cells #[.string q.1.str, .string q.2.str] 29 (0, 0))) (heap_alloc_at w (.cells #[.string p.1.str, .string p.2.str] 29 (0, 0))))
  have hx1 := heap_keep (nxAlloc (Below.refl _ _) (.cells #[.string ⟨#[]⟩, .string ⟨#[]⟩] 29 (0, 0))) (heap_alloc_at (w.alloc (.cells #[.string p.1.str, .string p.2.str] 29 (0, 0))) (.cells #[.string q.1.str, .string q.2.str] 29 (0, 0)))
  have hx2 := heap_alloc_at ((w.alloc (.cells #[.string p.1.str, .string p.2.str] 29 (0, 0))).alloc (.cells #[.string q.1.str, .string q.2.str] 29 (0, 0))) (.cells #[.string ⟨#[]⟩, .string ⟨#[]⟩] 29 (0, 0))
  generalize (((w.alloc (.cells #[.string p.1.str, .string p.2.str] 29 (0, 0))).alloc (.cells #[.string q.1.str, .string q.2.str] 29 (0, 0))).alloc (.cells #[.string ⟨#[]⟩, .string ⟨#[]⟩] 29 (0, 0))) = w0 at *
  have e1 : (w.alloc (.cells #[.string p.1.str, .string p.2.str] 29 (0, 0))).heap.size = w.heap.size + 1 := by simp
  rw [e1] at hx1
  clear e1
  have e2 : ((w.alloc (.cells #[.string p.1.str, .string p.2.str] 29 (0, 0))).alloc (.cells #[.string q.1.str, .string q.2.str] 29 (0, 0))).heap.size = w.heap.size + 1 + 1 := by simp
  rw [e2] at hx2
  clear e2
  obtain ⟨hx0a, hx0b, hx0c⟩ := two_facts hx0
  obtain ⟨hx0f, hx0g⟩ := two_frozen hx0
  obtain ⟨hx1a, hx1b, hx1c⟩ := two_facts hx1
  obtain ⟨hx1f, hx1g⟩ := two_frozen hx1
  obtain ⟨hx2a, hx2b, hx2c⟩ := two_facts hx2
  obtain ⟨hx2f, hx2g⟩ := two_frozen hx2
  have hz0 := Below.refl w0.heap.size w0
  go_region_held3 (fun w' => w'.cell? ⟨w.heap.size, 1, none⟩ = some (.string p.2.str) ∧ w'.cell? ⟨w.heap.size + 1, 0, none⟩ = some (.string q.1.str))
    (first
      | exact ⟨hx0b, hx1a⟩
      | exact ⟨A1, A2⟩
      | exact ⟨B1, B2⟩)
    (first
      | (go_at_call 41; (with_reducible refine (T1 _).mono ?_); rintro e w1 ⟨b1, hn1, hb1, rfl⟩; have hb1' := nx hz0.drew hb1; have A1 := keep_cell hb1' hx0b; have A2 := keep_cell hb1' hx1a)
      | (go_at_call 41; (with_reducible refine (T2 _).mono ?_); rintro e w2 ⟨b2, hn2, hb2, rfl⟩; have hb2' := nx hb1' hb2; have B1 := keep_cell hb2' hx0b; have B2 := keep_cell hb2' hx1a))
  go_wp2_with fail
  have hn1' := hn1.keep hb2
  refine (join_any p.2 q.1 b1 b2 _ hn1' hn2).mono ?_; rintro e w3 ⟨b3, hn3, hb3, rfl⟩
  have hbw3 := nx hb0 (nx hb2' hb3)
  have m1 := hn1'.keep hb3
  have m2 := hn2.keep hb3
  have hy0 := heap_keep (nx hb2' hb3) hx0
  have hy1 := heap_keep (nx hb2' hb3) hx1
  have hy2 := heap_keep (nx hb2' hb3) hx2
  have hb00 := Below.refl w3.heap.size w3
  clear hx0 hx1 hx2 hx0a hx0b hx0c hx0f hx0g hx1a hx1b hx1c hx1f hx1g hx2a hx2b hx2c hx2f hx2g A1 A2 B1 B2 hn1 hn2 hn1' hb1 hb2 hb1' hb2' hb3 hz0 hb0 T1 T2
  obtain ⟨k1, _⟩ := two_cells hy0
  obtain ⟨_, k2⟩ := two_cells hy1
  generalize hJ : p.2.join q.1 = J at *
  clear hJ
  go_wp2_with fail
  go_region_held3 (fun w' => w'.cell? ⟨w.heap.size, 0, none⟩ = some (.string p.1.str) ∧ w'.cell? ⟨w.heap.size + 1, 1, none⟩ = some (.string q.2.str))
    (first
      | exact ⟨k1, k2⟩
      | exact ⟨A1, A2⟩
      | exact ⟨B1, B2⟩
      | exact ⟨C1, C2⟩
      | exact ⟨D1, D2⟩
      | exact ⟨E1, E2⟩
      | exact ⟨G1, G2⟩)
    (first
      | (go_at_call_of 44 (some (⟨b1, 0, none⟩ : Addr)); refine (below_any p.2 J b1 b3 _ ?_ ?_ PJ1 hjc).mono ?_; exact m1.keep hb00.drew; exact hn3.keep hb00.drew; rintro e w4 ⟨g1, cap1, own1, hb4, rfl⟩; have hb4' := nx hb00.drew hb4; have A1 := keep_cell hb4' k1; have A2 := keep_cell hb4' k2)
      | (go_at_call_of 43 (some (⟨g1, 0, none⟩ : Addr)); refine (W1 _ _ _ own1.cells).mono ?_; rintro e w5 ⟨rfl, hb5⟩; have hb5' := nx hb4' hb5; have B1 := keep_cell hb5' k1; have B2 := keep_cell hb5' k2)
      | (go_at_call_of 44 (some (⟨b2, 0, none⟩ : Addr)); refine (below_any q.1 J b2 b3 _ ?_ ?_ PJ2 hjc).mono ?_; exact m2.keep hb5'; exact hn3.keep hb5'; rintro e w6 ⟨g2, cap2, own2, hb6, rfl⟩; have hb6' := nx hb5' hb6; have C1 := keep_cell hb6' k1; have C2 := keep_cell hb6' k2)
      | (go_at_call_of 43 (some (⟨g2, 0, none⟩ : Addr)); refine (W2 _ _ _ own2.cells).mono ?_; rintro e w7 ⟨rfl, hb7⟩; have hb7' := nx hb6' hb7; have D1 := keep_cell hb7' k1; have D2 := keep_cell hb7' k2)
      | (go_at_call 33; refine (RR _).mono ?_; rintro e w8 ⟨rfl, hb8⟩; have hb8' := nx hb7' hb8; have E1 := keep_cell hb8' k1; have E2 := keep_cell hb8' k2; have hz2 := heap_keep hb8' hy2; have hz0 := heap_keep hb8' hy0; have hz1 := heap_keep hb8' hy1; obtain ⟨n1, n2⟩ := two_cells hz2; obtain ⟨f1, f2⟩ := two_frozen hz2; have hq0 := (Below.heap_setCell (w8.setCell ⟨w.heap.size + 1 + 1, 0, none⟩ (.string (mulP p q).1.str)) ⟨w.heap.size + 1 + 1, 1, none⟩ (.string (mulP p q).2.str) w.heap.size (by show ¬ w.heap.size = w.heap.size + 1 + 1; omega)).trans ((Below.heap_setCell w8 ⟨w.heap.size + 1 + 1, 0, none⟩ (.string (mulP p q).1.str) w.heap.size (by show ¬ w.heap.size = w.heap.size + 1 + 1; omega)).trans hz0); have hq1 := (Below.heap_setCell (w8.setCell ⟨w.heap.size + 1 + 1, 0, none⟩ (.string (mulP p q).1.str)) ⟨w.heap.size + 1 + 1, 1, none⟩ (.string (mulP p q).2.str) (w.heap.size + 1) (by show ¬ w.heap.size + 1 = w.heap.size + 1 + 1; omega)).trans ((Below.heap_setCell w8 ⟨w.heap.size + 1 + 1, 0, none⟩ (.string (mulP p q).1.str) (w.heap.size + 1) (by show ¬ w.heap.size + 1 = w.heap.size + 1 + 1; omega)).trans hz1); have G1 := (two_cells hq0).1; have G2 := (two_cells hq1).2))
  go_wp2_with fail
  obtain ⟨q1, q2⟩ := two_cells (set_two (.string (mulP p q).1.str) (.string (mulP p q).2.str) hz2)
  refine bodyPost_ret (v := .agg #[.string (mulP p q).1.str, .string (mulP p q).2.str]) (by simp [q1, q2, results, Tryd.results24, go_sem]) rfl ⟨rfl, ?_⟩
  exact ((nx hbw3 hb8').setCell (by show w.heap.size ≤ w.heap.size + 1 + 1; omega) _).setCell (by show w.heap.size ≤ w.heap.size + 1 + 1; omega) _

set_option maxRecDepth 100000 in
set_option maxHeartbeats 4000000 in
theorem prTimes_any (p q : Pr) (w : World) (hp : okP p) (hq : okP q) (h1 : p.1.carets ≤ 30) (h2 : q.1.carets ≤ 30) :
    Calls Tryd.prog 21 #[.agg #[.string p.1.str, .string p.2.str], .agg #[.string q.1.str, .string q.2.str]] w (Gives (.agg #[.string (mulP p q).1.str, .string (mulP p q).2.str]) w) := by
  have hr := rawP_carets hp hq
  have hj := join_carets p.2 q.1
  have hp' : p.1.carets = p.2.carets := hp
  have hq' : q.1.carets = q.2.carets := hq
  have W1 := fun b v w h => prFill_raw1 hp hq h1 h2 b v w h
  have W2 := fun b v w h => prFill_raw2 hp hq h1 h2 b v w h
  have RR : ∀ w, Calls Tryd.prog 18 #[.agg #[.string (rawP p q).1.str, .string (rawP p q).2.str], .slice none 0 0] w (Gives (.agg #[.string (mulP p q).1.str, .string (mulP p q).2.str]) w) := fun w => prReduce_nil (rawP p q) w (by omega) (by omega)
  have P1 := fun w => prParts_any p.2 (p.2.join q.1) w (part_join p.2 q.1) (by omega)
  have P2 := fun w => prParts_any q.1 (p.2.join q.1) w (part_join' p.2 q.1) (by omega)
  have J := fun w => trJoin_any p.2 q.1 w (by omega) (by omega)
  clear hr hj
  go_enter Tryd.func21, Tryd.ntmps21
  go_wp2_with fail
  have hb0 : Below w.heap.size w (((w.alloc (.cells #[.string p.1.str, .string p.2.str] 29 (0, 0))).alloc (.cells #[.string q.1.str, .string q.2.str] 29 (0, 0))).alloc (.cells #[.string ⟨#[]⟩, .string ⟨#[]⟩] 29 (0, 0))) := nxAlloc (nxAlloc (nxAlloc (Below.refl _ _) _) _) _
  have hx0 := heap_keep (nxAlloc (Below.refl _ _) (.cells #[.string ⟨#[]⟩, .string ⟨#[]⟩] 29 (0, 0))) (heap_keep (nxAlloc (Below.refl _ _) (.cells #[.string q.1.str, .string q.2.str] 29 (0, 0))) (heap_alloc_at w (.cells #[.string p.1.str, .string p.2.str] 29 (0, 0))))
  have hx1 := heap_keep (nxAlloc (Below.refl _ _) (.cells #[.string ⟨#[]⟩, .string ⟨#[]⟩] 29 (0, 0))) (heap_alloc_at (w.alloc (.cells #[.string p.1.str, .string p.2.str] 29 (0, 0))) (.cells #[.string q.1.str, .string q.2.str] 29 (0, 0)))
  have hx2 := heap_alloc_at ((w.alloc (.cells #[.string p.1.str, .string p.2.str] 29 (0, 0))).alloc (.cells #[.string q.1.str, .string q.2.str] 29 (0, 0))) (.cells #[.string ⟨#[]⟩, .string ⟨#[]⟩] 29 (0, 0))
  generalize (((w.alloc (.cells #[.string p.1.str, .string p.2.str] 29 (0, 0))).alloc (.cells #[.string q.1.str, .string q.2.str] 29 (0, 0))).alloc (.cells #[.string ⟨#[]⟩, .string ⟨#[]⟩] 29 (0, 0))) = w0 at *
  have e1 : (w.alloc (.cells #[.string p.1.str, .string p.2.str] 29 (0, 0))).heap.size = w.heap.size + 1 := by simp
  rw [e1] at hx1
  clear e1
  have e2 : ((w.alloc (.cells #[.string p.1.str, .string p.2.str] 29 (0, 0))).alloc (.cells #[.string q.1.str, .string q.2.str] 29 (0, 0))).heap.size = w.heap.size + 1 + 1 := by simp
  rw [e2] at hx2
  clear e2
  obtain ⟨hx0a, hx0b, hx0c⟩ := two_facts hx0
  obtain ⟨hx0f, hx0g⟩ := two_frozen hx0
  obtain ⟨hx1a, hx1b, hx1c⟩ := two_facts hx1
  obtain ⟨hx1f, hx1g⟩ := two_frozen hx1
  obtain ⟨hx2a, hx2b, hx2c⟩ := two_facts hx2
  obtain ⟨hx2f, hx2g⟩ := two_frozen hx2
  refine (J _).mono ?_; rintro e w1 ⟨rfl, hb1⟩
  have hbw1 := nx hb0 hb1
  replace hx0 := heap_keep hb1 hx0
  replace hx1 := heap_keep hb1 hx1
  replace hx2 := heap_keep hb1 hx2
  clear hx0a hx0b hx0c hx0f hx0g
  obtain ⟨hx0a, hx0b, hx0c⟩ := two_facts hx0
  obtain ⟨hx0f, hx0g⟩ := two_frozen hx0
  clear hx1a hx1b hx1c hx1f hx1g
  obtain ⟨hx1a, hx1b, hx1c⟩ := two_facts hx1
  obtain ⟨hx1f, hx1g⟩ := two_frozen hx1
  clear hx2a hx2b hx2c hx2f hx2g
  obtain ⟨hx2a, hx2b, hx2c⟩ := two_facts hx2
  obtain ⟨hx2f, hx2g⟩ := two_frozen hx2
  clear hb1 hb0
  have hb00 := Below.refl w1.heap.size w1
  generalize p.2.join q.1 = G at *
  go_wp2_with fail
  go_region_held3 (fun w' => w'.cell? ⟨w.heap.size, 0, none⟩ = some (.string p.1.str) ∧ w'.cell? ⟨w.heap.size, 1, none⟩ = some (.string p.2.str) ∧ w'.cell? ⟨w.heap.size + 1, 0, none⟩ = some (.string q.1.str) ∧ w'.cell? ⟨w.heap.size + 1, 1, none⟩ = some (.string q.2.str))
    (first
      | exact ⟨hx0a, hx0b, hx1a, hx1b⟩
      | exact ⟨A1.1, A1.2, A2.1, A2.2⟩
      | exact ⟨B1.1, B1.2, B2.1, B2.2⟩
      | exact ⟨C1.1, C1.2, C2.1, C2.2⟩
      | exact ⟨D1.1, D1.2, D2.1, D2.2⟩
      | exact ⟨E1.1, E1.2, E2.1, E2.2⟩
      | exact ⟨G1.1, G1.2, G2.1, G2.2⟩)
    (first
      | (go_at_call 38; (with_reducible refine (P1 _).mono ?_); rintro e w4 ⟨g1, cap1, own1, hb4, rfl⟩; have hb4' := nx hb00.drew hb4; have A1 := two_cells (heap_keep hb4' hx0); have A2 := two_cells (heap_keep hb4' hx1))
      | (go_at_call_of 37 (some (⟨g1, 0, none⟩ : Addr)); refine (W1 _ _ _ own1.cells).mono ?_; rintro e w5 ⟨rfl, hb5⟩; have hb5' := nx hb4' hb5; have B1 := two_cells (heap_keep hb5' hx0); have B2 := two_cells (heap_keep hb5' hx1))
      | (go_at_call 38; (with_reducible refine (P2 _).mono ?_); rintro e w6 ⟨g2, cap2, own2, hb6, rfl⟩; have hb6' := nx hb5' hb6; have C1 := two_cells (heap_keep hb6' hx0); have C2 := two_cells (heap_keep hb6' hx1))
      | (go_at_call_of 37 (some (⟨g2, 0, none⟩ : Addr)); refine (W2 _ _ _ own2.cells).mono ?_; rintro e w7 ⟨rfl, hb7⟩; have hb7' := nx hb6' hb7; have D1 := two_cells (heap_keep hb7' hx0); have D2 := two_cells (heap_keep hb7' hx1))
      | (go_at_call 18; refine (RR _).mono ?_; rintro e w8 ⟨rfl, hb8⟩; have hb8' := nx hb7' hb8; have hz0 := heap_keep hb8' hx0; have hz1 := heap_keep hb8' hx1; have hz2 := heap_keep hb8' hx2; have E1 := two_cells hz0; have E2 := two_cells hz1; obtain ⟨n1, n2⟩ := two_cells hz2; obtain ⟨f1, f2⟩ := two_frozen hz2; have hq0 := (Below.heap_setCell (w8.setCell ⟨w.heap.size + 1 + 1, 0, none⟩ (.string (mulP p q).1.str)) ⟨w.heap.size + 1 + 1, 1, none⟩ (.string (mulP p q).2.str) w.heap.size (by show ¬ w.heap.size = w.heap.size + 1 + 1; omega)).trans ((Below.heap_setCell w8 ⟨w.heap.size + 1 + 1, 0, none⟩ (.string (mulP p q).1.str) w.heap.size (by show ¬ w.heap.size = w.heap.size + 1 + 1; omega)).trans hz0); have hq1 := (Below.heap_setCell (w8.setCell ⟨w.heap.size + 1 + 1, 0, none⟩ (.string (mulP p q).1.str)) ⟨w.heap.size + 1 + 1, 1, none⟩ (.string (mulP p q).2.str) (w.heap.size + 1) (by show ¬ (w.heap.size + 1) = w.heap.size + 1 + 1; omega)).trans ((Below.heap_setCell w8 ⟨w.heap.size + 1 + 1, 0, none⟩ (.string (mulP p q).1.str) (w.heap.size + 1) (by show ¬ (w.heap.size + 1) = w.heap.size + 1 + 1; omega)).trans hz1); have G1 := two_cells hq0; have G2 := two_cells hq1))
  go_wp2_with fail
  obtain ⟨q1, q2⟩ := two_cells (set_two (.string (mulP p q).1.str) (.string (mulP p q).2.str) hz2)
  refine bodyPost_ret (v := .agg #[.string (mulP p q).1.str, .string (mulP p q).2.str]) (by simp [q1, q2, results, Tryd.results21, go_sem]) rfl ⟨rfl, ?_⟩
  exact ((nx hbw1 hb8').setCell (by show w.heap.size ≤ w.heap.size + 1 + 1; omega) _).setCell (by show w.heap.size ≤ w.heap.size + 1 + 1; omega) _
end Go.Proofs.YtlcepokenaiggaaDoor

/-! Ln8 -/
namespace Go.Proofs.YtlcepokenaiggaaDoor
open Go.RowKit

set_option maxRecDepth 100000 in
set_option maxHeartbeats 2000000 in
theorem lnOf_any (p : Pr) (w : World) (hok : okP p) (h1 : p.1.carets ≤ 60) (h2 : p.2.carets ≤ 60) :
    Calls Tryd.prog 17 #[.agg #[.string p.1.str, .string p.2.str]] w (Gives (.int .i64 (lenP p)) w) := by
  have hA := fun w => lnKinds_any p.1 w h1
  have hB := fun w => lnKinds_any p.2 w h2
  obtain ⟨n, hn⟩ : ∃ n, n = p.1.kinds.length := ⟨_, rfl⟩
  have hnc : n = p.1.carets := by rw [hn, kinds_length]
  have hy : p.2.kinds.length = n := by rw [kinds_length, hnc]; exact hok.symm
  have hlen : lenP p = lenU p.1.kinds p.2.kinds n := by unfold lenP; rw [hn]
  have hx := hn.symm
  rw [hlen]
  clear hlen hn
  have hR := lenU_range p.1.kinds p.2.kinds
  have hS : ∀ k, lenU p.1.kinds p.2.kinds (k + 1) = lenU p.1.kinds p.2.kinds k + lenV (p.1.kinds.getD k ⟨#[]⟩) (p.2.kinds.getD k ⟨#[]⟩) := fun k => rfl
  have hV := lenV_range
  have hU0 : lenU p.1.kinds p.2.kinds 0 = 0 := rfl
  have hn60 : n ≤ 60 := by omega
  clear hnc
  generalize lenU p.1.kinds p.2.kinds = U at *
  generalize p.1.kinds = xs at *
  generalize p.2.kinds = ys at *
  go_enter Tryd.func17, Tryd.ntmps17
  go_wp2_with fail
  have hb0 : Below w.heap.size w (w.alloc (.cells #[.string p.1.str, .string p.2.str] 29 (0, 0))) := nxAlloc (Below.refl _ _) _
  have hx0 := heap_alloc_at w (.cells #[.string p.1.str, .string p.2.str] 29 (0, 0))
  generalize (w.alloc (.cells #[.string p.1.str, .string p.2.str] 29 (0, 0))) = w0 at *
  obtain ⟨hx0a, hx0b, hx0c⟩ := two_facts hx0
  obtain ⟨hx0f, hx0g⟩ := two_frozen hx0
  have hz := Below.refl w0.heap.size w0
  go_wp2_with fail
  refine wp_region_held_drew (S := (fun (w' : World) => w'.cell? ⟨w.heap.size, 0, none⟩ = some (.string p.1.str) ∧ w'.cell? ⟨w.heap.size, 1, none⟩ = some (.string p.2.str))) (by kernel_rfl) ⟨hx0a, hx0b⟩ (fun hH0 => ?_)
  refine wpAnyH_take (i := 0) (oi := ?oi201) (v := ?vv201) ?hi201 ?hn201 ?hf201 ?hr201 ?hq201 (Or.inl ⟨?hg201, ?hy201⟩) hH0 ?rest201
  case hi201 => (simp only [List.getElem?_toArray, List.getElem?_cons_zero]; rfl)
  case hn201 => kernel_rfl
  case hf201 => kernel_rfl
  case hr201 => kernel_rfl
  case hg201 => rfl
  case hy201 => (intro w hSw; (try dsimp only at hSw); go_simp; first | done | with_reducible rfl)
  case hq201 => exact fun _ _ _ h => h
  try dsimp only [Act.put]
  refine wpAnyH_take (i := 1) (oi := ?oi202) (v := ?vv202) ?hi202 ?hn202 ?hf202 ?hr202 ?hq202 (Or.inl ⟨?hg202, ?hy202⟩) hH0 ?rest202
  case hi202 => (simp only [List.getElem?_toArray, List.getElem?_cons_succ, List.getElem?_cons_zero]; rfl)
  case hn202 => kernel_rfl
  case hf202 => kernel_rfl
  case hr202 => kernel_rfl
  case hg202 => rfl
  case hy202 => (intro w hSw; (try dsimp only at hSw); go_simp; first | done | with_reducible rfl)
  case hq202 => exact fun _ _ _ h => h
  try dsimp only [Act.put]
  refine wpAnyH_take (i := 3) (oi := ?oi203) (v := ?vv203) ?hi203 ?hn203 ?hf203 ?hr203 ?hq203 (Or.inl ⟨?hg203, ?hy203⟩) hH0 ?rest203
  case hi203 => (simp only [List.getElem?_toArray, List.getElem?_cons_succ, List.getElem?_cons_zero]; rfl)
  case hn203 => kernel_rfl
  case hf203 => kernel_rfl
  case hr203 => kernel_rfl
  case hg203 => rfl
  case hy203 => (intro w hSw; (try dsimp only at hSw); go_simp; first | done | with_reducible rfl)
  case hq203 => exact fun _ _ _ h => h
  try dsimp only [Act.put]
  refine wpAnyH_take (i := 4) (oi := ?oi204) (v := ?vv204) ?hi204 ?hn204 ?hf204 ?hr204 ?hq204 (Or.inl ⟨?hg204, ?hy204⟩) hH0 ?rest204
  case hi204 => (simp only [List.getElem?_toArray, List.getElem?_cons_succ, List.getElem?_cons_zero]; rfl)
  case hn204 => kernel_rfl
  case hf204 => kernel_rfl
  case hr204 => kernel_rfl
  case hg204 => rfl
  case hy204 => (intro w hSw; (try dsimp only at hSw); go_simp; first | done | with_reducible rfl)
  case hq204 => exact fun _ _ _ h => h
  try dsimp only [Act.put]
  refine held_one 2 rfl (by kernel_rfl) (fun K hK => ?_)
  go_simp
  refine (hA _).mono ?_; rintro e w1 ⟨v1, own1, hb1, rfl⟩
  have hb1' := nx hz.drew hb1
  go_wp2_with fail
  have hH1 : (fun (w' : World) => w'.cell? ⟨w.heap.size, 0, none⟩ = some (.string p.1.str) ∧ w'.cell? ⟨w.heap.size, 1, none⟩ = some (.string p.2.str)) _ := ⟨keep_cell hb1' hx0a, keep_cell hb1' hx0b⟩
  refine hK.out (fun (w' : World) => w'.cell? ⟨w.heap.size, 0, none⟩ = some (.string p.1.str) ∧ w'.cell? ⟨w.heap.size, 1, none⟩ = some (.string p.2.str)) _ _ (fun _ h => h) hH1 ?_
  clear hK K
  try dsimp only [Act.put]
  refine held_one 5 rfl (by kernel_rfl) (fun K hK => ?_)
  go_simp
  refine (hB _).mono ?_; rintro e w2 ⟨v2, own2, hb2, rfl⟩
  have hb2' := nx hb1' hb2
  go_wp2_with fail
  have hH2 : (fun (w' : World) => w'.cell? ⟨w.heap.size, 0, none⟩ = some (.string p.1.str) ∧ w'.cell? ⟨w.heap.size, 1, none⟩ = some (.string p.2.str)) _ := ⟨keep_cell hb2' hx0a, keep_cell hb2' hx0b⟩
  refine hK.out (fun (w' : World) => w'.cell? ⟨w.heap.size, 0, none⟩ = some (.string p.1.str) ∧ w'.cell? ⟨w.heap.size, 1, none⟩ = some (.string p.2.str)) _ _ (fun _ h => h) hH2 ?_
  clear hK K
  try dsimp only [Act.put]
  refine wpAnyH_take (i := 6) (oi := ?oi205) (v := ?vv205) ?hi205 ?hn205 ?hf205 ?hr205 ?hq205 (Or.inl ⟨?hg205, ?hy205⟩) hH2 ?rest205
  case hi205 => (simp only [List.getElem?_toArray, List.getElem?_cons_succ, List.getElem?_cons_zero]; rfl)
  case hn205 => kernel_rfl
  case hf205 => kernel_rfl
  case hr205 => kernel_rfl
  case hg205 => rfl
  case hy205 => (intro w hSw; (try dsimp only at hSw); go_simp; first | done | with_reducible rfl)
  case hq205 => exact fun _ _ _ h => h
  try dsimp only [Act.put]
  refine wpAnyH_take (i := 7) (oi := ?oi206) (v := ?vv206) ?hi206 ?hn206 ?hf206 ?hr206 ?hq206 (Or.inl ⟨?hg206, ?hy206⟩) hH2 ?rest206
  case hi206 => (simp only [List.getElem?_toArray, List.getElem?_cons_succ, List.getElem?_cons_zero]; rfl)
  case hn206 => kernel_rfl
  case hf206 => kernel_rfl
  case hr206 => kernel_rfl
  case hg206 => rfl
  case hy206 => (intro w hSw; (try dsimp only at hSw); go_simp; first | done | with_reducible rfl)
  case hq206 => exact fun _ _ _ h => h
  try dsimp only [Act.put]
  refine wpAnyH_done (by kernel_rfl) ?_ _
  simp only [List.setIfInBounds_toArray, List.set_cons_zero, List.set_cons_succ]
  have hbw2 := nx hb0 hb2'
  have own1' := own1.keep hb2
  clear hx0 hx0a hx0b hx0c hx0f hx0g hb0 hb1 hb2 hb1' hb2' own1 hA hB hz hH0 hH1 hH2
  by_cases hn0 : n = 0
  · subst hn0
    obtain rfl := List.length_eq_zero_iff.1 hx
    have hv1 : (v1 = .slice none 0 0) ∨ ∃ g c, v1 = .slice (some ⟨g, 0, none⟩) 0 c := by
      rcases own1'.cells with ⟨h0, _⟩ | ⟨g1, cap1, h0, _⟩
      · exact .inl h0
      · exact .inr ⟨g1, cap1, h0⟩
    clear own1' own2 hS hR hV
    rcases hv1 with rfl | ⟨g, c, rfl⟩
    all_goals
      go_wp2_with fail
      go_loopw [5, 17] (fun s i wr => s = .int .i64 0 ∧ i = .int .i64 0 ∧ wr = w2) (fun _ _ _ => 0)
      case atStart => exact ⟨rfl, rfl, rfl⟩
      case round =>
        obtain ⟨rfl, rfl, rfl⟩ := hrel
        go_wp2_with fail
        go_ret
        exact ⟨by rw [hU0]; rfl, hbw2⟩
  · skip
    rcases own1'.cells with ⟨h0, h1⟩ | ⟨g1, cap1, rfl, _, hg1, hc1, hc2, hcell1, _⟩
    · rw [h1] at hx
      simp at hx
      omega
    rcases own2.cells with ⟨h0, h1⟩ | ⟨g2, cap2, rfl, _, hg2, hc3, hc4, hcell2, _⟩
    · rw [h1] at hy
      simp at hy
      omega
    rw [hx] at hc1 hcell1 ⊢
    rw [hy] at hc3 hcell2 ⊢
    have HC1 := Lib.hid hcell1
    have HC2 := Lib.hid hcell2
    unfold maxLen at hc2 hc4
    clear hcell1 hcell2 own1' own2
    go_wp2_with fail
    go_loopw [5, 17] (fun s i wr => ∃ k : Nat, k ≤ n ∧ i = .int .i64 k ∧ s = .int .i64 (U k) ∧ Below w2.heap.size w2 wr) (fun _ i _ => n - (intOf i).toNat)
    case atStart => exact ⟨0, Nat.zero_le _, rfl, by rw [hU0], Below.refl _ _⟩
    case round =>
      obtain ⟨k, hk, rfl, rfl, hbw⟩ := hrel
      by_cases hlt : k < n
      · have hlt' : (k : Int) < (n : Int) := by omega
        have d1 := HC1.out k (by omega)
        have d2 := HC2.out k (by omega)
        have hs := hS k
        have hr := hR k
        have hv := hV (xs.getD k ⟨#[]⟩) (ys.getD k ⟨#[]⟩)
        have hlv : ∀ a b, lenV a b = (lenO a b).getD 0 := fun _ _ => rfl
        rw [hlv] at hs hv
        generalize xs.getD k ⟨#[]⟩ = a at *
        generalize ys.getD k ⟨#[]⟩ = b at *
        have c1 := (hbw.cell (p := ⟨g1, k, none⟩) hg1).trans d1
        have c2 := (hbw.cell (p := ⟨g2, k, none⟩) hg2).trans d2
        have hL := fun w => lnTable_any a b w
        unfold ansJ at hL
        generalize (lenO a b).getD 0 = z at *
        generalize (lenO a b).isSome = q at *
        have hw : IntKind.i64.wrap (U k + z) = U k + z := by rw [IntKind.wrap_i64]; omega
        have HS := Lib.hid hs
        clear hs hlv hv hr hS hR hV d1 d2
        go_wp2_with fail
        have hz3 := Below.refl wr.heap.size wr
        refine wp_region_held_drew (S := (fun (w' : World) => w'.cell? ⟨g1, k, none⟩ = some (.string a) ∧ w'.cell? ⟨g2, k, none⟩ = some (.string b))) (by kernel_rfl) ⟨c1, c2⟩ (fun hH0 => ?_)
        refine wpAnyH_take (i := 0) (oi := ?oi401) (v := ?vv401) ?hi401 ?hn401 ?hf401 ?hr401 ?hq401 (Or.inl ⟨?hg401, ?hy401⟩) hH0 ?rest401
        case hi401 => (simp only [List.getElem?_toArray, List.getElem?_cons_zero]; rfl)
        case hn401 => kernel_rfl
        case hf401 => kernel_rfl
        case hr401 => kernel_rfl
        case hg401 => rfl
        case hy401 => (intro w hSw; (try dsimp only at hSw); go_simp; first | done | with_reducible rfl)
        case hq401 => exact fun _ _ _ h => h
        try dsimp only [Act.put]
        refine wpAnyH_take (i := 1) (oi := ?oi402) (v := ?vv402) ?hi402 ?hn402 ?hf402 ?hr402 ?hq402 (Or.inl ⟨?hg402, ?hy402⟩) hH0 ?rest402
        case hi402 => (simp only [List.getElem?_toArray, List.getElem?_cons_succ, List.getElem?_cons_zero]; rfl)
        case hn402 => kernel_rfl
        case hf402 => kernel_rfl
        case hr402 => kernel_rfl
        case hg402 => rfl
        case hy402 => (intro w hSw; (try dsimp only at hSw); go_simp; first | done | with_reducible rfl)
        case hq402 => exact fun _ _ _ h => h
        try dsimp only [Act.put]
        refine wpAnyH_take (i := 2) (oi := ?oi403) (v := ?vv403) ?hi403 ?hn403 ?hf403 ?hr403 ?hq403 (Or.inl ⟨?hg403, ?hy403⟩) hH0 ?rest403
        case hi403 => (simp only [List.getElem?_toArray, List.getElem?_cons_succ, List.getElem?_cons_zero]; rfl)
        case hn403 => kernel_rfl
        case hf403 => kernel_rfl
        case hr403 => kernel_rfl
        case hg403 => rfl
        case hy403 => (intro w hSw; (try dsimp only at hSw); go_simp; first | done | with_reducible rfl)
        case hq403 => exact fun _ _ _ h => h
        try dsimp only [Act.put]
        refine wpAnyH_take (i := 3) (oi := ?oi404) (v := ?vv404) ?hi404 ?hn404 ?hf404 ?hr404 ?hq404 (Or.inl ⟨?hg404, ?hy404⟩) hH0 ?rest404
        case hi404 => (simp only [List.getElem?_toArray, List.getElem?_cons_succ, List.getElem?_cons_zero]; rfl)
        case hn404 => kernel_rfl
        case hf404 => kernel_rfl
        case hr404 => kernel_rfl
        case hg404 => rfl
        case hy404 => (intro w hSw; (try dsimp only at hSw); go_simp; first | done | with_reducible rfl)
        case hq404 => exact fun _ _ _ h => h
        try dsimp only [Act.put]
        refine wpAnyH_take (i := 4) (oi := ?oi405) (v := ?vv405) ?hi405 ?hn405 ?hf405 ?hr405 ?hq405 (Or.inl ⟨?hg405, ?hy405⟩) hH0 ?rest405
        case hi405 => (simp only [List.getElem?_toArray, List.getElem?_cons_succ, List.getElem?_cons_zero]; rfl)
        case hn405 => kernel_rfl
        case hf405 => kernel_rfl
        case hr405 => kernel_rfl
        case hg405 => rfl
        case hy405 => (intro w hSw; (try dsimp only at hSw); go_simp; first | done | with_reducible rfl)
        case hq405 => exact fun _ _ _ h => h
        try dsimp only [Act.put]
        refine wpAnyH_take (i := 5) (oi := ?oi406) (v := ?vv406) ?hi406 ?hn406 ?hf406 ?hr406 ?hq406 (Or.inl ⟨?hg406, ?hy406⟩) hH0 ?rest406
        case hi406 => (simp only [List.getElem?_toArray, List.getElem?_cons_succ, List.getElem?_cons_zero]; rfl)
        case hn406 => kernel_rfl
        case hf406 => kernel_rfl
        case hr406 => kernel_rfl
        case hg406 => rfl
        case hy406 => (intro w hSw; (try dsimp only at hSw); go_simp; first | done | with_reducible rfl)
        case hq406 => exact fun _ _ _ h => h
        try dsimp only [Act.put]
        refine wpAnyH_take (i := 6) (oi := ?oi407) (v := ?vv407) ?hi407 ?hn407 ?hf407 ?hr407 ?hq407 (Or.inl ⟨?hg407, ?hy407⟩) hH0 ?rest407
        case hi407 => (simp only [List.getElem?_toArray, List.getElem?_cons_succ, List.getElem?_cons_zero]; rfl)
        case hn407 => kernel_rfl
        case hf407 => kernel_rfl
        case hr407 => kernel_rfl
        case hg407 => rfl
        case hy407 => (intro w hSw; (try dsimp only at hSw); go_simp; first | done | with_reducible rfl)
        case hq407 => exact fun _ _ _ h => h
        try dsimp only [Act.put]
        refine wpAnyH_take (i := 7) (oi := ?oi408) (v := ?vv408) ?hi408 ?hn408 ?hf408 ?hr408 ?hq408 (Or.inl ⟨?hg408, ?hy408⟩) hH0 ?rest408
        case hi408 => (simp only [List.getElem?_toArray, List.getElem?_cons_succ, List.getElem?_cons_zero]; rfl)
        case hn408 => kernel_rfl
        case hf408 => kernel_rfl
        case hr408 => kernel_rfl
        case hg408 => rfl
        case hy408 => (intro w hSw; (try dsimp only at hSw); go_simp; first | done | with_reducible rfl)
        case hq408 => exact fun _ _ _ h => h
        try dsimp only [Act.put]
        refine held_one 8 rfl (by kernel_rfl) (fun K hK => ?_)
        go_simp
        refine (hL _).mono ?_; rintro e w3 ⟨rfl, hb3⟩
        have hb3' := nx hz3.drew hb3
        go_wp2_with fail
        have hH1 : (fun (w' : World) => w'.cell? ⟨g1, k, none⟩ = some (.string a) ∧ w'.cell? ⟨g2, k, none⟩ = some (.string b)) _ := ⟨keep_cell hb3' c1, keep_cell hb3' c2⟩
        refine hK.out (fun (w' : World) => w'.cell? ⟨g1, k, none⟩ = some (.string a) ∧ w'.cell? ⟨g2, k, none⟩ = some (.string b)) _ _ (fun _ h => h) hH1 ?_
        clear hK K
        try dsimp only [Act.put]
        refine wpAnyH_take (i := 9) (oi := ?oi409) (v := ?vv409) ?hi409 ?hn409 ?hf409 ?hr409 ?hq409 (Or.inl ⟨?hg409, ?hy409⟩) hH1 ?rest409
        case hi409 => (simp only [List.getElem?_toArray, List.getElem?_cons_succ, List.getElem?_cons_zero]; rfl)
        case hn409 => kernel_rfl
        case hf409 => kernel_rfl
        case hr409 => kernel_rfl
        case hg409 => rfl
        case hy409 => (intro w hSw; (try dsimp only at hSw); go_simp; first | done | with_reducible rfl)
        case hq409 => exact fun _ _ _ h => h
        try dsimp only [Act.put]
        refine wpAnyH_take (i := 10) (oi := ?oi410) (v := ?vv410) ?hi410 ?hn410 ?hf410 ?hr410 ?hq410 (Or.inl ⟨?hg410, ?hy410⟩) hH1 ?rest410
        case hi410 => (simp only [List.getElem?_toArray, List.getElem?_cons_succ, List.getElem?_cons_zero]; rfl)
        case hn410 => kernel_rfl
        case hf410 => kernel_rfl
        case hr410 => kernel_rfl
        case hg410 => rfl
        case hy410 => (intro w hSw; (try dsimp only at hSw); go_simp; first | done | with_reducible rfl)
        case hq410 => exact fun _ _ _ h => h
        try dsimp only [Act.put]
        refine wpAnyH_take (i := 11) (oi := ?oi411) (v := ?vv411) ?hi411 ?hn411 ?hf411 ?hr411 ?hq411 (Or.inl ⟨?hg411, ?hy411⟩) hH1 ?rest411
        case hi411 => (simp only [List.getElem?_toArray, List.getElem?_cons_succ, List.getElem?_cons_zero]; rfl)
        case hn411 => kernel_rfl
        case hf411 => kernel_rfl
        case hr411 => kernel_rfl
        case hg411 => rfl
        case hy411 => (intro w hSw; (try dsimp only at hSw); go_simp; first | done | with_reducible rfl)
        case hq411 => exact fun _ _ _ h => h
        try dsimp only [Act.put]
        refine wpAnyH_take (i := 12) (oi := ?oi412) (v := ?vv412) ?hi412 ?hn412 ?hf412 ?hr412 ?hq412 (Or.inl ⟨?hg412, ?hy412⟩) hH1 ?rest412
        case hi412 => (simp only [List.getElem?_toArray, List.getElem?_cons_succ, List.getElem?_cons_zero]; rfl)
        case hn412 => kernel_rfl
        case hf412 => kernel_rfl
        case hr412 => kernel_rfl
        case hg412 => rfl
        case hy412 => (intro w hSw; (try dsimp only at hSw); go_simp; first | done | with_reducible rfl)
        case hq412 => exact fun _ _ _ h => h
        try dsimp only [Act.put]
        refine wpAnyH_take (i := 13) (oi := ?oi413) (v := ?vv413) ?hi413 ?hn413 ?hf413 ?hr413 ?hq413 (Or.inl ⟨?hg413, ?hy413⟩) hH1 ?rest413
        case hi413 => (simp only [List.getElem?_toArray, List.getElem?_cons_succ, List.getElem?_cons_zero]; rfl)
        case hn413 => kernel_rfl
        case hf413 => kernel_rfl
        case hr413 => kernel_rfl
        case hg413 => rfl
        case hy413 => (intro w hSw; (try dsimp only at hSw); go_simp; first | done | with_reducible rfl)
        case hq413 => exact fun _ _ _ h => h
        try dsimp only [Act.put]
        refine wpAnyH_done (by kernel_rfl) ?_ _
        simp only [List.setIfInBounds_toArray, List.set_cons_zero, List.set_cons_succ]
        have hbw3 := nx hbw hb3'
        clear hb3 hb3' hz3 hH0 hH1 c1 c2 hL hbw
        go_wp2_with fail
        go_roundw
        case rel => exact ⟨k + 1, by omega, by go_num, by rw [HS.out], hbw3⟩
        case measure => simp [intOf]; omega
      · obtain rfl : k = n := by omega
        clear hS hR hV
        go_wp2_with fail
        go_ret
        exact ⟨rfl, nx hbw2 hbw⟩
end Go.Proofs.YtlcepokenaiggaaDoor

/-! Cont -/
namespace Go.Proofs.YtlcepokenaiggaaDoor
open Go.RowKit
/-- The index of the first byte c from an index on. -/
def idxC (s : ByteArray) (c : UInt8) : Int := Lib.indexByte s.data.toList c
theorem idxC_neg (l : List UInt8) (c : UInt8) : (Lib.indexByte l c = -1 ∧ ¬ c ∈ l) ∨ (0 ≤ Lib.indexByte l c ∧ c ∈ l) := by
  induction l with
  | nil => exact .inl ⟨rfl, by simp⟩
  | cons a l ih =>
    unfold Lib.indexByte
    by_cases h : (a == c) = true
    · rw [if_pos h]
      have : a = c := by simpa using h
      exact .inr ⟨by omega, by simp [this]⟩
    · rw [if_neg h]
      have hne : a ≠ c := by simpa using h
      rcases ih with ⟨h1, h2⟩ | ⟨h1, h2⟩
      · exact .inl ⟨by rw [h1]; rfl, by simp [h2, Ne.symm hne]⟩
      · right
        have : (Lib.indexByte l c == -1) = false := by rw [beq_eq_false_iff_ne]; omega
        simp only [this]
        exact ⟨by simp; omega, by simp [h2]⟩

set_option maxRecDepth 100000 in
set_option maxHeartbeats 1000000 in
theorem indexByteC_any (s : ByteArray) (c : UInt8) (w : World) :
    Calls Tryd.prog 86 #[.string s, .int .u8 c.toNat] w fun e w' => e = .returned (.int .i64 (idxC s c)) ∧ w = w' := by
  go_enter Tryd.func86, Tryd.ntmps86
  go_wp2
  rw [run_callFunc_extern Tryd.func90 (by kernel_rfl) (by kernel_rfl) (by kernel_rfl) (e := Extern.BytealgIndexByte.indexByte) (by kernel_rfl), Lib.run_indexByteString]
  simp only [Result.andThen]
  rw [Oper.upon_value]
  go_wp2
  go_ret
  refine ⟨ret_int ?_, rfl⟩
  unfold idxC
  simp

set_option maxRecDepth 100000 in
set_option maxHeartbeats 1000000 in
theorem idxA48_any (s : ByteArray) (w : World) :
    Calls Tryd.prog 82 #[.string s, .string ⟨#[48]⟩] w fun e w' => e = .returned (.int .i64 (idxC s 48)) ∧ w = w' := by
  have hI := fun w => indexByteC_any s 48 w
  have gz : ((⟨#[48]⟩ : ByteArray)[0]'(by decide)).toNat = 48 := rfl
  have ez : ((48 : UInt8).toNat : Int) = 48 := rfl
  rw [ez] at hI
  cases hq : ([48] == s.toList) with
  | true =>
    have h0 : idxC s 48 = 0 := by
      unfold idxC
      rw [← Lib.toList_data, ← (beq_iff_eq.1 hq)]
      rfl
    rw [h0]
    clear hI h0 ez
    go_enter Tryd.func82, Tryd.ntmps82
    go_wp2_with fail
    go_ret
    exact ⟨rfl, rfl⟩
  | false =>
    generalize idxC s 48 = z at *
    clear ez
    go_enter Tryd.func82, Tryd.ntmps82
    go_wp2_with fail
    refine (hI _).mono ?_; rintro e w1 ⟨rfl, rfl⟩
    go_wp2_with fail
    go_ret
    exact ⟨rfl, rfl⟩

theorem idxB48_any (s : ByteArray) (w : World) :
    Calls Tryd.prog 75 #[.string s, .string ⟨#[48]⟩] w fun e w' => e = .returned (.int .i64 (idxC s 48)) ∧ w = w' := by
  have hI := fun w => idxA48_any s w
  generalize idxC s 48 = z at *
  go_enter Tryd.func75, Tryd.ntmps75
  go_wp2_with fail
  refine (hI _).mono ?_; rintro e w1 ⟨rfl, rfl⟩
  go_wp2_with fail
  go_ret
  exact ⟨rfl, rfl⟩
theorem cont48_any (s : ByteArray) (w : World) :
    Calls Tryd.prog 80 #[.string s, .string ⟨#[48]⟩] w fun e w' => e = .returned (.bool (decide ((48 : UInt8) ∈ s.data.toList))) ∧ w = w' := by
  have hI := fun w => idxB48_any s w
  have hs := idxC_neg s.data.toList 48
  rw [show Lib.indexByte s.data.toList 48 = idxC s 48 from rfl] at hs
  generalize idxC s 48 = z at *
  rcases hs with ⟨rfl, h⟩ | ⟨h1, h⟩
  · rw [decide_eq_false h]
    clear h
    go_enter Tryd.func80, Tryd.ntmps80
    go_wp2_with fail
    refine (hI _).mono ?_; rintro e w1 ⟨rfl, rfl⟩
    go_wp2_with fail
    go_ret
    exact ⟨rfl, rfl⟩
  · rw [decide_eq_true h]
    clear h
    go_enter Tryd.func80, Tryd.ntmps80
    go_wp2_with fail
    refine (hI _).mono ?_; rintro e w1 ⟨rfl, rfl⟩
    go_wp2_with fail
    go_ret
    exact ⟨rfl, rfl⟩

set_option maxRecDepth 100000 in
set_option maxHeartbeats 1000000 in
theorem idxA49_any (s : ByteArray) (w : World) :
    Calls Tryd.prog 82 #[.string s, .string ⟨#[49]⟩] w fun e w' => e = .returned (.int .i64 (idxC s 49)) ∧ w = w' := by
  have hI := fun w => indexByteC_any s 49 w
  have gz : ((⟨#[49]⟩ : ByteArray)[0]'(by decide)).toNat = 49 := rfl
  have ez : ((49 : UInt8).toNat : Int) = 49 := rfl
  rw [ez] at hI
  cases hq : ([49] == s.toList) with
  | true =>
    have h0 : idxC s 49 = 0 := by
      unfold idxC
      rw [← Lib.toList_data, ← (beq_iff_eq.1 hq)]
      rfl
    rw [h0]
    clear hI h0 ez
    go_enter Tryd.func82, Tryd.ntmps82
    go_wp2_with fail
    go_ret
    exact ⟨rfl, rfl⟩
  | false =>
    generalize idxC s 49 = z at *
    clear ez
    go_enter Tryd.func82, Tryd.ntmps82
    go_wp2_with fail
    refine (hI _).mono ?_; rintro e w1 ⟨rfl, rfl⟩
    go_wp2_with fail
    go_ret
    exact ⟨rfl, rfl⟩

theorem idxB49_any (s : ByteArray) (w : World) :
    Calls Tryd.prog 75 #[.string s, .string ⟨#[49]⟩] w fun e w' => e = .returned (.int .i64 (idxC s 49)) ∧ w = w' := by
  have hI := fun w => idxA49_any s w
  generalize idxC s 49 = z at *
  go_enter Tryd.func75, Tryd.ntmps75
  go_wp2_with fail
  refine (hI _).mono ?_; rintro e w1 ⟨rfl, rfl⟩
  go_wp2_with fail
  go_ret
  exact ⟨rfl, rfl⟩
theorem cont49_any (s : ByteArray) (w : World) :
    Calls Tryd.prog 80 #[.string s, .string ⟨#[49]⟩] w fun e w' => e = .returned (.bool (decide ((49 : UInt8) ∈ s.data.toList))) ∧ w = w' := by
  have hI := fun w => idxB49_any s w
  have hs := idxC_neg s.data.toList 49
  rw [show Lib.indexByte s.data.toList 49 = idxC s 49 from rfl] at hs
  generalize idxC s 49 = z at *
  rcases hs with ⟨rfl, h⟩ | ⟨h1, h⟩
  · rw [decide_eq_false h]
    clear h
    go_enter Tryd.func80, Tryd.ntmps80
    go_wp2_with fail
    refine (hI _).mono ?_; rintro e w1 ⟨rfl, rfl⟩
    go_wp2_with fail
    go_ret
    exact ⟨rfl, rfl⟩
  · rw [decide_eq_true h]
    clear h
    go_enter Tryd.func80, Tryd.ntmps80
    go_wp2_with fail
    refine (hI _).mono ?_; rintro e w1 ⟨rfl, rfl⟩
    go_wp2_with fail
    go_ret
    exact ⟨rfl, rfl⟩


theorem has48_any (s : ByteArray) (w : World) : Calls Tryd.prog 80 #[.string s, .string ⟨#[48]⟩] w fun e w' => e = .returned (.bool (hasB s 48)) ∧ w = w' := by
  have := cont48_any s w
  rw [show decide ((48 : UInt8) ∈ s.data.toList) = hasB s 48 by unfold hasB; simp] at this
  exact this
theorem has49_any (s : ByteArray) (w : World) : Calls Tryd.prog 80 #[.string s, .string ⟨#[49]⟩] w fun e w' => e = .returned (.bool (hasB s 49)) ∧ w = w' := by
  have := cont49_any s w
  rw [show decide ((49 : UInt8) ∈ s.data.toList) = hasB s 49 by unfold hasB; simp] at this
  exact this
end Go.Proofs.YtlcepokenaiggaaDoor

/-! Ln5 -/
namespace Go.Proofs.YtlcepokenaiggaaDoor
open Go.RowKit

theorem info_caret : (Tryd.prog.info? 91).map (fun i => (i.zero, i.size, i.bytes)) = some (some (.agg #[.string ⟨#[]⟩, .bool false]), 2, 24) := by kernel_rfl
theorem newsC (w : World) (cs : Array Value) (e : TypeId) : ∀ (j : Nat) (u : Value), cs.toList[j]? = some u → (w.alloc (.cells cs e)).cell? ((⟨w.heap.size, 0, none⟩ : Addr).add j) = some u := by
  intro j u hj
  have hb : (w.alloc (.cells cs e)).heap[w.heap.size]? = some (.cells cs e (0, 0)) := by show (w.heap.push _)[w.heap.size]? = _; simp
  rw [addr_add]
  simp only [World.cell?, hb]
  simpa using hj
def flatC : List (ByteArray × Bool) → List Value
  | [] => []
  | x :: l => .string x.1 :: .bool x.2 :: flatC l
theorem flatC_length (l : List (ByteArray × Bool)) : (flatC l).length = l.length * 2 := by
  induction l with
  | nil => rfl
  | cons x l ih => simp [flatC, ih]; omega
theorem flatC_append (l m : List (ByteArray × Bool)) : flatC (l ++ m) = flatC l ++ flatC m := by
  induction l with
  | nil => rfl
  | cons x l ih => simp [flatC, ih]
theorem flatC_get (l : List (ByteArray × Bool)) : ∀ k, k < l.length → (flatC l)[k * 2]? = some (.string (l.getD k (⟨#[]⟩, false)).1) ∧ (flatC l)[k * 2 + 1]? = some (.bool (l.getD k (⟨#[]⟩, false)).2) := by
  induction l with
  | nil => intro k hk; simp at hk
  | cons x l ih =>
    intro k hk
    match k with
    | 0 => exact ⟨rfl, rfl⟩
    | k + 1 =>
      have := ih k (by simpa using hk)
      rw [show (k + 1) * 2 = k * 2 + 2 by omega]
      exact this
theorem flatC_one (l : List (ByteArray × Bool)) : ∀ u ∈ flatC l, u.oneCell' = true := by
  induction l with
  | nil => intro u hu; simp [flatC] at hu
  | cons x l ih =>
    intro u hu
    simp only [flatC, List.mem_cons] at hu
    rcases hu with rfl | rfl | hu
    · rfl
    · rfl
    · exact ih u hu
/-- v is a slice of carets that the call has made. -/
def OwnC (base : Nat) (w : World) (v : Value) (xs : List (ByteArray × Bool)) : Prop := w.ownsRow base 91 2 v xs.length (flatC xs)
theorem OwnC.keep {base : Nat} {w w' : World} {v : Value} {xs : List (ByteArray × Bool)} (h : OwnC base w v xs) (hb : Below w.heap.size w w') : OwnC base w' v xs := ownsRow_keep h hb
theorem OwnC.mono {base base' : Nat} {w : World} {v : Value} {xs : List (ByteArray × Bool)} (h : OwnC base w v xs) (hb : base' ≤ base) : OwnC base' w v xs := ownsRow_mono h hb
theorem OwnC.nil (base : Nat) (w : World) : OwnC base w (.slice none 0 0) [] := World.ownsRow_nil _ _ _ _
/-- Carets that can be read from a place in a block on. -/
def AtC (w : World) (g o : Nat) (xs : List (ByteArray × Bool)) : Prop :=
  ∀ k, k < xs.length → w.cell? ⟨g, o + k * 2, none⟩ = some (.string (xs.getD k (⟨#[]⟩, false)).1) ∧ w.cell? ⟨g, o + k * 2 + 1, none⟩ = some (.bool (xs.getD k (⟨#[]⟩, false)).2)
theorem OwnC.cells {base : Nat} {w : World} {v : Value} {xs : List (ByteArray × Bool)} (h : OwnC base w v xs) :
    (v = .slice none 0 0 ∧ xs = []) ∨ ∃ g cap : Nat, v = .slice (some ⟨g, 0, none⟩) xs.length cap ∧ base ≤ g ∧ g < w.heap.size ∧ xs.length ≤ cap ∧ cap ≤ maxLen ∧ AtC w g 0 xs := by
  have h0 := h
  obtain ⟨h1, h2⟩ := h
  rcases h2 with ⟨hv, hn⟩ | ⟨g, cap, cur, hv, hg, hh, r1, r2, r3⟩
  · exact .inl ⟨hv, List.length_eq_zero_iff.1 hn⟩
  · subst hv
    refine .inr ⟨g, cap, rfl, hg, lt_of_block hh, r1, r2, fun k hk => ?_⟩
    have e1 := World.ownsRow.cellAt h0 (k * 2) (by omega)
    have e2 := World.ownsRow.cellAt h0 (k * 2 + 1) (by omega)
    have := flatC_get xs k hk
    rw [Nat.zero_add, e1, e2]
    exact this
theorem AtC.keep {w w' : World} {g o : Nat} {xs : List (ByteArray × Bool)} (h : AtC w g o xs) (hb : Below w.heap.size w w') (hg : g < w.heap.size) : AtC w' g o xs := fun k hk => ⟨(hb.cell (p := ⟨g, _, none⟩) hg).trans (h k hk).1, (hb.cell (p := ⟨g, _, none⟩) hg).trans (h k hk).2⟩
theorem AtC.tail {w : World} {g o : Nat} {xs : List (ByteArray × Bool)} (h : AtC w g o xs) (i : Nat) : AtC w g (o + i * 2) (xs.drop i) := fun k hk => by
  rw [List.length_drop] at hk
  have e : (xs.drop i).getD k (⟨#[]⟩, false) = xs.getD (i + k) (⟨#[]⟩, false) := by simp
  have := h (i + k) (by omega)
  rw [e, show o + i * 2 + k * 2 = o + (i + k) * 2 by omega]
  exact this
def GivesC (xs : List (ByteArray × Bool)) (w : World) (e : Ending) (w' : World) : Prop :=
  ∃ v, OwnC w.heap.size w' v xs ∧ Below w.heap.size w w' ∧ e = .returned v

/-- A slice value of m elements from which the cells ys can be read. -/
def SrcW (w : World) (u : Value) (m : Nat) (ys : List Value) : Prop :=
  (u = .slice none 0 0 ∧ m = 0 ∧ ys = []) ∨ ∃ ad c, u = .slice (some ad) m c ∧ ∀ j x, ys[j]? = some x → w.cell? (ad.add j) = some x
theorem wpList_appSrcW {P : Program} {w : World} {ops : Array Oper} {rest : List Oper} {o : Oper} {a : Act} {Q : Exit → Act → World → Prop} (hgd : o.guard = none) (s x : Operand) (t : TypeId)
    (ho : o.op = .call { callee := .builtin .append, args := #[s, x], argTypes := #[t, t] })
    (base : Nat) (e : TypeId) (i : TypeInfo) (z : Value) (size bytes : Nat) (ht : P.underlying t = some (.slice e)) (hi : P.info? e = some i) (hz : i.zero = some z)
    (hsize : i.size = size) (hby : i.bytes = bytes) (hzs : z.cells.size = size) (hsz : 0 < size)
    (v : Value) (n : Nat) (xs : List Value) (hs : a.eval s = v) (hown : w.ownsRow base e size v n xs)
    (u : Value) (m : Nat) (ys : List Value) (hx : a.eval x = u) (hsrc : SrcW w u m ys) (hl : ys.length = m * size) (h1 : ∀ y ∈ ys, y.oneCell' = true)
    (h63 : n + m ≤ maxLen) (hbytes : (n + m) * bytes ≤ 140737488355328) (hbase : base ≤ w.heap.size)
    (h : ∀ v' w', w'.ownsRow base e size v' (n + m) (xs ++ ys) → Below base w w' → wpList P ops Q rest (a.put o.dst v') w') : wpList P ops Q (o :: rest) a w := by
  rcases hsrc with ⟨rfl, rfl, rfl⟩ | ⟨ad, c, rfl, hc⟩
  · refine wpList_append_own_none hgd s x t ho base e i size ht hi v n xs hs hown hx ?_
    exact h v w (by simpa using hown) (Below.refl _ _)
  · refine wpList_append_own w hgd s x t ho base e i z size bytes ht hi hz hsize hby hzs hsz v n xs hs hown ad m c ys hx hl hc h1 h63 hbytes hbase ?_
    intro v' w' hown' hg hn
    exact h v' w' hown' ((Below.refl base w).grown hg hbase (fun k hk => ownsRow_ge hown k hk))
theorem OwnC.src {base : Nat} {w : World} {v : Value} {xs : List (ByteArray × Bool)} (h : OwnC base w v xs) : SrcW w v xs.length (flatC xs) := by
  have h0 := h
  obtain ⟨h1, h2⟩ := h
  rcases h2 with ⟨hv, hn⟩ | ⟨g, cap, cur, hv, hg, hh, r1, r2, r3⟩
  · have : xs = [] := List.length_eq_zero_iff.1 hn
    subst this
    exact .inl ⟨hv, rfl, rfl⟩
  · subst hv
    refine .inr ⟨_, cap, rfl, fun j x hj => ?_⟩
    have hj' : j < (flatC xs).length := (List.getElem?_eq_some_iff.1 hj).1
    rw [flatC_length] at hj'
    rw [addr_add, World.ownsRow.cellAt h0 j hj', hj]
theorem OwnC.snoc {base : Nat} {w : World} {v : Value} {xs : List (ByteArray × Bool)} {a : ByteArray} {b : Bool} (h : w.ownsRow base 91 2 v (xs.length + 1) (flatC xs ++ [.string a, .bool b])) : OwnC base w v (xs ++ [(a, b)]) := by
  unfold OwnC
  rw [List.length_append, flatC_append]
  exact h
theorem OwnC.app {base : Nat} {w : World} {v : Value} {xs ys : List (ByteArray × Bool)} (h : w.ownsRow base 91 2 v (xs.length + ys.length) (flatC xs ++ flatC ys)) : OwnC base w v (xs ++ ys) := by
  unfold OwnC
  rw [List.length_append, flatC_append]
  exact h

set_option maxRecDepth 100000 in
theorem isOnLeft_any (a : ByteArray) (b : Bool) (w : World) : Calls Tryd.prog 70 #[.agg #[.string a, .bool b]] w (Gives (.bool (!hasB a 49)) w) := by
  have hC := fun w => has49_any a w
  generalize hasB a 49 = z at *
  go_enter Tryd.func70, Tryd.ntmps70
  go_wp2_with fail
  have hb0 : Below w.heap.size w (w.alloc (.cells #[.string a, .bool b] 91 (0, 0))) := nxAlloc (Below.refl _ _) _
  have hx0 := heap_alloc_at w (.cells #[.string a, .bool b] 91 (0, 0))
  generalize (w.alloc (.cells #[.string a, .bool b] 91 (0, 0))) = w0 at *
  obtain ⟨hx0a, hx0b, hx0c⟩ := two_facts hx0
  go_wp2_with fail
  refine (hC _).mono ?_; rintro e w1 ⟨rfl, rfl⟩
  go_wp2_with fail
  go_ret
  exact ⟨rfl, hb0⟩
set_option maxRecDepth 100000 in
theorem isOnNeither_any (a : ByteArray) (b : Bool) (w : World) : Calls Tryd.prog 71 #[.agg #[.string a, .bool b]] w (Gives (.bool (hasB a 48 && hasB a 49)) w) := by
  have hC := fun w => has48_any a w
  have hL := fun w => isOnLeft_any a b w
  generalize hasB a 49 = y at *
  generalize hasB a 48 = x at *
  cases x with
  | false =>
    clear hL
    go_enter Tryd.func71, Tryd.ntmps71
    go_wp2_with fail
    have hb0 : Below w.heap.size w (w.alloc (.cells #[.string a, .bool b] 91 (0, 0))) := nxAlloc (Below.refl _ _) _
    have hx0 := heap_alloc_at w (.cells #[.string a, .bool b] 91 (0, 0))
    generalize (w.alloc (.cells #[.string a, .bool b] 91 (0, 0))) = w0 at *
    obtain ⟨hx0a, hx0b, hx0c⟩ := two_facts hx0
    go_wp2_with fail
    refine (hC _).mono ?_; rintro e w1 ⟨rfl, rfl⟩
    go_wp2_with fail
    go_ret
    exact ⟨rfl, hb0⟩
  | true =>
    go_enter Tryd.func71, Tryd.ntmps71
    go_wp2_with fail
    have hb0 : Below w.heap.size w (w.alloc (.cells #[.string a, .bool b] 91 (0, 0))) := nxAlloc (Below.refl _ _) _
    have hx0 := heap_alloc_at w (.cells #[.string a, .bool b] 91 (0, 0))
    generalize (w.alloc (.cells #[.string a, .bool b] 91 (0, 0))) = w0 at *
    obtain ⟨hx0a, hx0b, hx0c⟩ := two_facts hx0
    go_wp2_with fail
    refine (hC _).mono ?_; rintro e w1 ⟨rfl, rfl⟩
    go_wp2_with fail
    refine (hL _).mono ?_; rintro e w2 ⟨rfl, hb2⟩
    go_wp2_with fail
    go_ret
    exact ⟨by cases y <;> rfl, nx hb0 hb2⟩

set_option maxRecDepth 100000 in
set_option maxHeartbeats 4000000 in
theorem caretsFrom_any (t : Tr) : ∀ (b : Nat) (here : ByteArray) (w : World), NodeAt w t b → t.carets ≤ 60 → here.size + t.carets ≤ 1000 →
    Calls Tryd.prog 54 #[.pointer (some ⟨b, 0, none⟩), .string here] w (GivesC (t.cars here) w) := by
  obtain ⟨i0, hi, hz0, hz1, hz2⟩ := info_parts info_caret
  induction t with
  | lf =>
    intro b here w h ht hh
    have H := Lib.hid h
    clear h
    go_enter Tryd.func54, Tryd.ntmps54
    go_wp2_with fail
    refine (isLeaf_any .lf b _ H.out).mono ?_; rintro e w1 ⟨rfl, rfl⟩
    simp only [Tr.isLf]
    go_wp2_with fail
    go_ret
    exact ⟨_, OwnC.nil _ _, Below.refl _ _, rfl⟩
  | nd l r ihl ihr =>
    intro b here w h ht hh
    have ht' : l.carets + r.carets + 1 ≤ 60 := ht
    have hh' : here.size + (l.carets + r.carets + 1) ≤ 1000 := hh
    have ll := cars_length l (here ++ ⟨#[48]⟩)
    have lr := cars_length r (here ++ ⟨#[49]⟩)
    obtain ⟨A, hA⟩ : ∃ A, A = l.cars (here ++ ⟨#[48]⟩) := ⟨_, rfl⟩
    obtain ⟨B, hB⟩ : ∃ B, B = r.cars (here ++ ⟨#[49]⟩) := ⟨_, rfl⟩
    have hC : (Tr.nd l r).cars here = (A ++ [(here, r.isLf)]) ++ B := by rw [hA, hB]; simp [Tr.cars]
    have s0 : (here ++ (⟨#[48]⟩ : ByteArray)).size = here.size + 1 := ByteArray.size_append
    have s1 : (here ++ (⟨#[49]⟩ : ByteArray)).size = here.size + 1 := ByteArray.size_append
    have jl := fun b w h => ihl b (here ++ ⟨#[48]⟩) w h (by omega) (by omega)
    have jr := fun b w h => ihr b (here ++ ⟨#[49]⟩) w h (by omega) (by omega)
    have jf := fun b w h => isLeaf_any r b w h
    rw [← hA] at ll jl
    rw [← hB] at lr jr
    rw [hC]
    have hAn : A.length ≤ 60 := by omega
    have hBn : B.length ≤ 60 := by omega
    have H := Lib.hid h
    obtain ⟨bl, br, h, hl, hr⟩ := h
    have h1 := two_left h
    have h2 := two_right h
    have hz3 : (9223372036854775807 < here.size + 1) = False := eq_false (by omega)
    have hz4 : ¬ (9223372036854775807 < here.size + 1) := by omega
    clear h ihl ihr hA hB hC s0 s1 ll lr
    go_enter Tryd.func54, Tryd.ntmps54
    go_wp2_with fail
    refine (isLeaf_any (.nd l r) b _ H.out).mono ?_; rintro e w1 ⟨rfl, rfl⟩
    simp only [Tr.isLf]
    go_wp2_with fail
    have hz := Below.refl w.heap.size w
    generalize r.isLf = q at *
    refine wp_region_held_drew (S := (fun (w' : World) => w'.cell? ⟨b, 0, none⟩ = some (.pointer (some ⟨bl, 0, none⟩)) ∧ w'.cell? ⟨b, 1, none⟩ = some (.pointer (some ⟨br, 0, none⟩)))) (by kernel_rfl) ⟨h1, h2⟩ (fun hH0 => ?_)
    refine wpAnyH_take (i := 0) (oi := ?oi201) (v := ?vv201) ?hi201 ?hn201 ?hf201 ?hr201 ?hq201 (Or.inl ⟨?hg201, ?hy201⟩) hH0 ?rest201
    case hi201 => (simp only [List.getElem?_toArray, List.getElem?_cons_zero]; rfl)
    case hn201 => kernel_rfl
    case hf201 => kernel_rfl
    case hr201 => kernel_rfl
    case hg201 => rfl
    case hy201 => (intro w hSw; (try dsimp only at hSw); go_simp; first | done | with_reducible rfl)
    case hq201 => exact fun _ _ _ h => h
    try dsimp only [Act.put]
    refine wpAnyH_take (i := 1) (oi := ?oi202) (v := ?vv202) ?hi202 ?hn202 ?hf202 ?hr202 ?hq202 (Or.inl ⟨?hg202, ?hy202⟩) hH0 ?rest202
    case hi202 => (simp only [List.getElem?_toArray, List.getElem?_cons_succ, List.getElem?_cons_zero]; rfl)
    case hn202 => kernel_rfl
    case hf202 => kernel_rfl
    case hr202 => kernel_rfl
    case hg202 => rfl
    case hy202 => (intro w hSw; (try dsimp only at hSw); go_simp; first | done | with_reducible rfl)
    case hq202 => exact fun _ _ _ h => h
    try dsimp only [Act.put]
    refine wpAnyH_take (i := 2) (oi := ?oi203) (v := ?vv203) ?hi203 ?hn203 ?hf203 ?hr203 ?hq203 (Or.inl ⟨?hg203, ?hy203⟩) hH0 ?rest203
    case hi203 => (simp only [List.getElem?_toArray, List.getElem?_cons_succ, List.getElem?_cons_zero]; rfl)
    case hn203 => kernel_rfl
    case hf203 => kernel_rfl
    case hr203 => kernel_rfl
    case hg203 => rfl
    case hy203 => (intro w hSw; (try dsimp only at hSw); go_simp; first | done | with_reducible rfl)
    case hq203 => exact fun _ _ _ h => h
    try dsimp only [Act.put]
    refine wpAnyH_take (i := 3) (oi := ?oi204) (v := ?vv204) ?hi204 ?hn204 ?hf204 ?hr204 ?hq204 (Or.inl ⟨?hg204, ?hy204⟩) hH0 ?rest204
    case hi204 => (simp only [List.getElem?_toArray, List.getElem?_cons_succ, List.getElem?_cons_zero]; rfl)
    case hn204 => kernel_rfl
    case hf204 => kernel_rfl
    case hr204 => kernel_rfl
    case hg204 => rfl
    case hy204 => (intro w hSw; (try dsimp only at hSw); go_simp; first | done | with_reducible rfl)
    case hq204 => exact fun _ _ _ h => h
    try dsimp only [Act.put]
    refine wpAnyH_take (i := 4) (oi := ?oi205) (v := ?vv205) ?hi205 ?hn205 ?hf205 ?hr205 ?hq205 (Or.inl ⟨?hg205, ?hy205⟩) hH0 ?rest205
    case hi205 => (simp only [List.getElem?_toArray, List.getElem?_cons_succ, List.getElem?_cons_zero]; rfl)
    case hn205 => kernel_rfl
    case hf205 => kernel_rfl
    case hr205 => kernel_rfl
    case hg205 => rfl
    case hy205 => (intro w hSw; (try dsimp only at hSw); go_simp; first | done | with_reducible rfl)
    case hq205 => exact fun _ _ _ h => h
    try dsimp only [Act.put]
    refine wpAnyH_take (i := 5) (oi := ?oi206) (v := ?vv206) ?hi206 ?hn206 ?hf206 ?hr206 ?hq206 (Or.inl ⟨?hg206, ?hy206⟩) hH0 ?rest206
    case hi206 => (simp only [List.getElem?_toArray, List.getElem?_cons_succ, List.getElem?_cons_zero]; rfl)
    case hn206 => kernel_rfl
    case hf206 => kernel_rfl
    case hr206 => kernel_rfl
    case hg206 => rfl
    case hy206 => (intro w hSw; (try dsimp only at hSw); go_simp; first | done | with_reducible rfl)
    case hq206 => exact fun _ _ _ h => h
    try dsimp only [Act.put]
    refine wpAnyH_take (i := 7) (oi := ?oi207) (v := ?vv207) ?hi207 ?hn207 ?hf207 ?hr207 ?hq207 (Or.inl ⟨?hg207, ?hy207⟩) hH0 ?rest207
    case hi207 => (simp only [List.getElem?_toArray, List.getElem?_cons_succ, List.getElem?_cons_zero]; rfl)
    case hn207 => kernel_rfl
    case hf207 => kernel_rfl
    case hr207 => kernel_rfl
    case hg207 => rfl
    case hy207 => (intro w hSw; (try dsimp only at hSw); go_simp; first | done | with_reducible rfl)
    case hq207 => exact fun _ _ _ h => h
    try dsimp only [Act.put]
    refine wpAnyH_take (i := 8) (oi := ?oi208) (v := ?vv208) ?hi208 ?hn208 ?hf208 ?hr208 ?hq208 (Or.inl ⟨?hg208, ?hy208⟩) hH0 ?rest208
    case hi208 => (simp only [List.getElem?_toArray, List.getElem?_cons_succ, List.getElem?_cons_zero]; rfl)
    case hn208 => kernel_rfl
    case hf208 => kernel_rfl
    case hr208 => kernel_rfl
    case hg208 => rfl
    case hy208 => (intro w hSw; (try dsimp only at hSw); go_simp; first | done | with_reducible rfl)
    case hq208 => exact fun _ _ _ h => h
    try dsimp only [Act.put]
    refine wpAnyH_take (i := 9) (oi := ?oi209) (v := ?vv209) ?hi209 ?hn209 ?hf209 ?hr209 ?hq209 (Or.inl ⟨?hg209, ?hy209⟩) hH0 ?rest209
    case hi209 => (simp only [List.getElem?_toArray, List.getElem?_cons_succ, List.getElem?_cons_zero]; rfl)
    case hn209 => kernel_rfl
    case hf209 => kernel_rfl
    case hr209 => kernel_rfl
    case hg209 => rfl
    case hy209 => (intro w hSw; (try dsimp only at hSw); go_simp; first | done | with_reducible rfl)
    case hq209 => exact fun _ _ _ h => h
    try dsimp only [Act.put]
    refine wpAnyH_take (i := 10) (oi := ?oi210) (v := ?vv210) ?hi210 ?hn210 ?hf210 ?hr210 ?hq210 (Or.inl ⟨?hg210, ?hy210⟩) hH0 ?rest210
    case hi210 => (simp only [List.getElem?_toArray, List.getElem?_cons_succ, List.getElem?_cons_zero]; rfl)
    case hn210 => kernel_rfl
    case hf210 => kernel_rfl
    case hr210 => kernel_rfl
    case hg210 => rfl
    case hy210 => (intro w hSw; (try dsimp only at hSw); go_simp; first | done | with_reducible rfl)
    case hq210 => exact fun _ _ _ h => h
    try dsimp only [Act.put]
    refine wpAnyH_take (i := 11) (oi := ?oi211) (v := ?vv211) ?hi211 ?hn211 ?hf211 ?hr211 ?hq211 (Or.inl ⟨?hg211, ?hy211⟩) hH0 ?rest211
    case hi211 => (simp only [List.getElem?_toArray, List.getElem?_cons_succ, List.getElem?_cons_zero]; rfl)
    case hn211 => kernel_rfl
    case hf211 => kernel_rfl
    case hr211 => kernel_rfl
    case hg211 => rfl
    case hy211 => (intro w hSw; (try dsimp only at hSw); go_simp; first | done | with_reducible rfl)
    case hq211 => exact fun _ _ _ h => h
    try dsimp only [Act.put]
    refine held_one 6 rfl (by kernel_rfl) (fun K hK => ?_)
    go_simp
    refine (jl bl _ (hl.keep hz.drew)).mono ?_; rintro e w3 ⟨v3, own3, hb3, rfl⟩
    have hb3' := nx hz.drew hb3
    go_wp2_with fail
    have hH1 : (fun (w' : World) => w'.cell? ⟨b, 0, none⟩ = some (.pointer (some ⟨bl, 0, none⟩)) ∧ w'.cell? ⟨b, 1, none⟩ = some (.pointer (some ⟨br, 0, none⟩))) _ := ⟨keep_cell hb3' h1, keep_cell hb3' h2⟩
    refine hK.out (fun (w' : World) => w'.cell? ⟨b, 0, none⟩ = some (.pointer (some ⟨bl, 0, none⟩)) ∧ w'.cell? ⟨b, 1, none⟩ = some (.pointer (some ⟨br, 0, none⟩))) _ _ (fun _ h => h) hH1 ?_
    clear hK K
    try dsimp only [Act.put]
    refine held_one 12 rfl (by kernel_rfl) (fun K hK => ?_)
    go_simp
    refine (jf br _ (hr.keep hb3')).mono ?_; rintro e w4 ⟨rfl, rfl⟩
    go_wp2_with fail
    have hH2 : (fun (w' : World) => w'.cell? ⟨b, 0, none⟩ = some (.pointer (some ⟨bl, 0, none⟩)) ∧ w'.cell? ⟨b, 1, none⟩ = some (.pointer (some ⟨br, 0, none⟩))) _ := ⟨keep_cell hb3' h1, keep_cell hb3' h2⟩
    refine hK.out (fun (w' : World) => w'.cell? ⟨b, 0, none⟩ = some (.pointer (some ⟨bl, 0, none⟩)) ∧ w'.cell? ⟨b, 1, none⟩ = some (.pointer (some ⟨br, 0, none⟩))) _ _ (fun _ h => h) hH2 ?_
    clear hK K
    try dsimp only [Act.put]
    refine wpAnyH_take (i := 13) (oi := ?oi212) (v := ?vv212) ?hi212 ?hn212 ?hf212 ?hr212 ?hq212 (Or.inl ⟨?hg212, ?hy212⟩) hH2 ?rest212
    case hi212 => (simp only [List.getElem?_toArray, List.getElem?_cons_succ, List.getElem?_cons_zero]; rfl)
    case hn212 => kernel_rfl
    case hf212 => kernel_rfl
    case hr212 => kernel_rfl
    case hg212 => rfl
    case hy212 => (intro w hSw; (try dsimp only at hSw); go_simp; first | done | with_reducible rfl)
    case hq212 => exact fun _ _ _ h => h
    try dsimp only [Act.put]
    have hbn := nxAlloc hb3' (.cells #[.string here, .bool q] 91 (0, 0))
    have hsn := hb3'.size
    refine held_one 14 rfl (by kernel_rfl) (fun K hK => ?_)
    go_simp
    refine hK.out (fun (w' : World) => w'.cell? ⟨b, 0, none⟩ = some (.pointer (some ⟨bl, 0, none⟩)) ∧ w'.cell? ⟨b, 1, none⟩ = some (.pointer (some ⟨br, 0, none⟩))) _ _ (fun _ h => h) ⟨keep_cell hbn h1, keep_cell hbn h2⟩ ?_
    clear hK K
    try dsimp only [Act.put]
    refine held_one 15 rfl (by kernel_rfl) (fun K hK => ?_)
    refine step_append_lies _ rfl _ _ 68 rfl w.heap.size 91 i0 (.agg #[.string ⟨#[]⟩, .bool false]) 2 24 Tryd.underlying68 hi hz0 hz1 hz2 rfl (by decide) _ _ _ rfl ((own3.mono (by simp)).alloc _) ⟨w3.heap.size, 0, none⟩ 1 1 [.string here, .bool q] rfl rfl (newsC _ #[.string here, .bool q] _) (flatC_one [(here, q)]) (by decide) (by unfold maxLen; omega) (by omega) (by simp; omega) _ rfl ?_
    intro g9 cap9 w9 hown9 hgrow hnb hlt9
    have hbw9 := hbn.grown hgrow (by simp; omega) (fun k hk => by have := ownsRow_ge own3 k hk; simp at this; omega)
    have hown1 := OwnC.snoc hown9
    refine hK.out (fun (w' : World) => w'.cell? ⟨b, 0, none⟩ = some (.pointer (some ⟨bl, 0, none⟩)) ∧ w'.cell? ⟨b, 1, none⟩ = some (.pointer (some ⟨br, 0, none⟩))) _ _ (fun _ h => h) ⟨keep_cell hbw9 h1, keep_cell hbw9 h2⟩ ?_
    clear hK K
    try dsimp only [Act.put]
    refine wpAnyH_take (i := 16) (oi := ?oi701) (v := ?vv701) ?hi701 ?hn701 ?hf701 ?hr701 ?hq701 (Or.inl ⟨?hg701, ?hy701⟩) (show (fun (w' : World) => w'.cell? ⟨b, 0, none⟩ = some (.pointer (some ⟨bl, 0, none⟩)) ∧ w'.cell? ⟨b, 1, none⟩ = some (.pointer (some ⟨br, 0, none⟩))) w9 from ⟨keep_cell hbw9 h1, keep_cell hbw9 h2⟩) ?rest701
    case hi701 => (simp only [List.getElem?_toArray, List.getElem?_cons_succ, List.getElem?_cons_zero]; rfl)
    case hn701 => kernel_rfl
    case hf701 => kernel_rfl
    case hr701 => kernel_rfl
    case hg701 => rfl
    case hy701 => (intro w hSw; (try dsimp only at hSw); go_simp; first | done | with_reducible rfl)
    case hq701 => exact fun _ _ _ h => h
    try dsimp only [Act.put]
    refine wpAnyH_done (by kernel_rfl) ?_ _
    simp only [List.setIfInBounds_toArray]
    have c1 := keep_cell hbw9 h1
    have c2 := keep_cell hbw9 h2
    have hr9 := hr.keep hbw9
    have hs9 := hbw9.size
    have hAl : (A ++ [(here, q)]).length = A.length + 1 := by simp
    clear hown9 hgrow hbn hsn hb3 hb3' own3 hz h1 h2 hl hr jl jf hH0
    go_wp2_with fail
    refine (jr br _ hr9).mono ?_; rintro e w5 ⟨v5, own5, hb5, rfl⟩
    have hbw5 := nx hbw9 hb5
    have own95 := hown1.keep hb5
    have hs5 := hbw5.size
    unfold OwnC at own95
    rw [hAl] at own95
    clear hown1 hbw9 hb5 c1 c2 hr9 hs9
    go_wp2_with (at_builtin; refine wpList_appSrcW rfl _ _ 68 rfl w.heap.size 91 i0 (.agg #[.string ⟨#[]⟩, .bool false]) 2 24 Tryd.underlying68 hi hz0 hz1 hz2 rfl (by decide) _ _ _ rfl own95 _ _ _ rfl own5.src (flatC_length B) (flatC_one B) (by unfold maxLen; omega) (by omega) hs5 ?_; intro v8 w8 hown8 hb8)
    have hbw8 := hbw5.trans hb8
    rw [← hAl] at hown8
    have own8 := OwnC.app hown8
    clear own95 own5 hown8
    go_wp2_with fail
    go_ret
    exact ⟨_, own8, hbw8, rfl⟩
end Go.Proofs.YtlcepokenaiggaaDoor

/-! Ln6 -/
namespace Go.Proofs.YtlcepokenaiggaaDoor
open Go.RowKit

def neC (x : ByteArray × Bool) : Bool := hasB x.1 48 && hasB x.1 49
theorem neC_code (x : ByteArray × Bool) : isNe (codeK x) = neC x := by
  unfold codeK neC
  cases hasB x.1 49 <;> cases hasB x.1 48 <;> simp [isNe_LL, isNe_R, inK_ne]
theorem getD_map {l : List (ByteArray × Bool)} {k : Nat} (h : k < l.length) : (l.map codeK).getD k ⟨#[]⟩ = codeK (l.getD k (⟨#[]⟩, false)) := by simp [h]
theorem any_drop {l : List (ByteArray × Bool)} {k : Nat} (h : k < l.length) : (l.drop k).any neC = (neC (l.getD k (⟨#[]⟩, false)) || (l.drop (k + 1)).any neC) := by
  rw [List.drop_eq_getElem_cons h, List.any_cons]
  simp [h]
set_option maxRecDepth 100000 in
set_option maxHeartbeats 2000000 in
theorem indexNe_any (g o cap : Nat) (xs : List (ByteArray × Bool)) (w : World) (hx : AtC w g o xs) (hg : g < w.heap.size) (hn : xs.length ≤ 1000) (hc : xs.length ≤ cap)
    (hcall : ∀ (args : Array Value) (w : World), (callFunc 71 args).run Tryd.prog w = .ok (.enter 71 args) w) :
    Calls Tryd.prog 85 #[.slice (some ⟨g, o, none⟩) xs.length cap, .func (Fn.func 71) #[] #[]] w fun e w' => ∃ z : Int, e = .returned (.int .i64 z) ∧ decide (0 ≤ z) = xs.any neC ∧ Below w.heap.size w w' := by
  have HX := Lib.hid hx
  obtain ⟨n, hn0⟩ : ∃ n, n = xs.length := ⟨_, rfl⟩
  rw [← hn0] at hn hc ⊢
  have HN := Lib.hid hn0
  clear hx hn0
  go_enter Tryd.func85, Tryd.ntmps85
  go_wp2_with fail
  go_loopw [8] (fun i wr => ∃ k : Nat, k ≤ n ∧ i = .int .i64 k ∧ Hid (xs.any neC = (xs.drop k).any neC) ∧ Below w.heap.size w wr) (fun i _ => n - (intOf i).toNat)
  case atStart => exact ⟨0, Nat.zero_le _, rfl, Lib.hid rfl, Below.refl _ _⟩
  case round =>
    obtain ⟨k, hk, rfl, ha, hbw⟩ := hrel
    by_cases hlt : k < n
    · have hlt' : (k : Int) < (n : Int) := by omega
      have hkx : k < xs.length := by have := HN.out; omega
      obtain ⟨c1, c2⟩ := (HX.out.keep hbw hg) k hkx
      have hd := ha.out
      rw [any_drop hkx] at hd
      generalize xs.getD k (⟨#[]⟩, false) = x at *
      obtain ⟨a, b⟩ := x
      dsimp only at c1 c2
      have hNE := fun w => isOnNeither_any a b w
      change xs.any neC = ((hasB a 48 && hasB a 49) || _) at hd
      generalize (hasB a 48 && hasB a 49) = q at *
      have HD := Lib.hid hd
      clear hd ha hkx
      go_wp2_with fail
      refine (hNE _).mono ?_; rintro e w1 ⟨rfl, hb1⟩
      have hbw1 := nx hbw hb1
      clear hbw hb1 c1 c2
      cases q with
      | true =>
        go_wp2_with fail
        go_ret
        exact ⟨_, rfl, by rw [HD.out]; simp, hbw1⟩
      | false =>
        have HD2 : Hid (xs.any neC = (xs.drop (k + 1)).any neC) := Lib.hid (by have := HD.out; simpa using this)
        clear HD
        go_wp2_with fail
        go_roundw
        case rel => exact ⟨k + 1, by omega, by go_num, HD2, hbw1⟩
        case measure => simp [intOf]; omega
    · obtain rfl : k = n := by omega
      have hd := ha.out
      rw [List.drop_of_length_le (by have := HN.out; omega)] at hd
      have HD := Lib.hid hd
      clear hd ha
      go_wp2_with fail
      go_ret
      exact ⟨_, rfl, by rw [HD.out]; rfl, hbw⟩
set_option maxRecDepth 100000 in
theorem containsNe_any (g o cap : Nat) (xs : List (ByteArray × Bool)) (w : World) (hx : AtC w g o xs) (hg : g < w.heap.size) (hn : xs.length ≤ 1000) (hc : xs.length ≤ cap)
    (hcall : ∀ (args : Array Value) (w : World), (callFunc 71 args).run Tryd.prog w = .ok (.enter 71 args) w) :
    Calls Tryd.prog 81 #[.slice (some ⟨g, o, none⟩) xs.length cap, .func (Fn.func 71) #[] #[]] w (Gives (.bool (xs.any neC)) w) := by
  have hI := indexNe_any g o cap xs w hx hg hn hc hcall
  generalize xs.any neC = q at *
  generalize xs.length = n at *
  clear hx
  have HI := Lib.hid hI
  clear hI
  go_enter Tryd.func81, Tryd.ntmps81
  go_wp2_with fail
  refine HI.out.mono ?_; rintro e w1 ⟨z, rfl, hz, hb1⟩
  go_wp2_with fail
  go_ret
  exact ⟨by rw [← hz]; rfl, hb1⟩
set_option maxRecDepth 100000 in
set_option maxHeartbeats 1000000 in
theorem kindOnRight_any (g o cap : Nat) (xs : List (ByteArray × Bool)) (w : World) (hx : AtC w g o xs) (hg : g < w.heap.size) (hn : xs.length ≤ 1000) (hc : xs.length ≤ cap)
    (hcall : ∀ (args : Array Value) (w : World), (callFunc 71 args).run Tryd.prog w = .ok (.enter 71 args) w) :
    Calls Tryd.prog 72 #[.slice (some ⟨g, o, none⟩) xs.length cap] w (Gives (.string (korK (xs.map codeK))) w) := by
  have hC := fun w hx hg => containsNe_any g o cap xs w hx hg hn hc hcall
  have HX := Lib.hid hx
  have ha : (xs.map codeK).any isNe = xs.any neC := by
    clear hx HX hC hn hc
    induction xs with
    | nil => rfl
    | cons x l ih => simp only [List.map_cons, List.any_cons, ih, neC_code]
  unfold korK
  rw [ha]
  cases hq : xs.any neC with
  | false =>
    rw [hq] at hC
    have hC' := Lib.hid (hC w hx hg)
    clear hC hx ha hq
    show Calls _ _ _ _ (Gives (.string sR0) w)
    go_enter Tryd.func72, Tryd.ntmps72
    go_wp2_with fail
    refine hC'.out.mono ?_; rintro e w1 ⟨rfl, hb1⟩
    go_wp2_with fail
    go_ret
    exact ⟨rfl, hb1⟩
  | true =>
    rw [hq] at hC
    have hpos : 0 < xs.length := by
      cases xs with
      | nil => simp at hq
      | cons x l => simp
    have hp' : (0 : Int) < (xs.length : Int) := by omega
    have hhd : isNe ((xs.map codeK).headD ⟨#[]⟩) = neC (xs.getD 0 (⟨#[]⟩, false)) := by
      cases xs with
      | nil => simp at hq
      | cons x l => exact neC_code x
    rw [hhd, if_neg (by simp)]
    have hX0 := hx 0 hpos
    have hC' := Lib.hid (hC w hx hg)
    clear hC hx ha hq hhd HX
    obtain ⟨c1, c2⟩ := hX0
    rw [Nat.zero_mul, Nat.add_zero] at c1
    rw [Nat.zero_mul, Nat.add_zero] at c2
    generalize xs.getD 0 (⟨#[]⟩, false) = x at *
    obtain ⟨a, b⟩ := x
    dsimp only at c1 c2
    have hNE := fun w => isOnNeither_any a b w
    show Calls _ _ _ _ (Gives (.string (if (hasB a 48 && hasB a 49) = true then sRI else sRN)) w)
    generalize (hasB a 48 && hasB a 49) = q at *
    generalize xs.length = n at *
    cases q with
    | true =>
      show Calls _ _ _ _ (Gives (.string sRI) w)
      go_enter Tryd.func72, Tryd.ntmps72
      go_wp2_with fail
      refine hC'.out.mono ?_; rintro e w1 ⟨rfl, hb1⟩
      replace c1 := keep_cell hb1 c1
      replace c2 := keep_cell hb1 c2
      go_wp2_with fail
      refine (hNE _).mono ?_; rintro e w2 ⟨rfl, hb2⟩
      go_wp2_with fail
      go_ret
      exact ⟨rfl, nx hb1 hb2⟩
    | false =>
      show Calls _ _ _ _ (Gives (.string sRN) w)
      go_enter Tryd.func72, Tryd.ntmps72
      go_wp2_with fail
      refine hC'.out.mono ?_; rintro e w1 ⟨rfl, hb1⟩
      replace c1 := keep_cell hb1 c1
      replace c2 := keep_cell hb1 c2
      go_wp2_with fail
      refine (hNE _).mono ?_; rintro e w2 ⟨rfl, hb2⟩
      go_wp2_with fail
      go_ret
      exact ⟨rfl, nx hb1 hb2⟩

set_option maxRecDepth 100000 in
set_option maxHeartbeats 2000000 in
theorem kindAt_any (g cap i : Nat) (xs : List (ByteArray × Bool)) (w : World) (hx : AtC w g 0 xs) (hg : g < w.heap.size) (hn : xs.length ≤ 1000) (hc : xs.length ≤ cap) (hm : cap ≤ maxLen) (hi : i < xs.length)
    (hcall : ∀ (args : Array Value) (w : World), (callFunc 71 args).run Tryd.prog w = .ok (.enter 71 args) w) :
    Calls Tryd.prog 55 #[.slice (some ⟨g, 0, none⟩) xs.length cap, .int .i64 i] w (Gives (.string (kindK i (codeK (xs.getD i (⟨#[]⟩, false))) ((xs.drop (i + 1)).map codeK))) w) := by
  have hX0 := hx i hi
  unfold maxLen at hm
  have hi' : (i : Int) < (xs.length : Int) := by omega
  have hi0 : 0 ≤ (i : Int) := by omega
  rw [Nat.zero_add] at hX0
  obtain ⟨c1, c2⟩ := hX0
  have hT := AtC.tail hx (i + 1)
  have hTl : (xs.drop (i + 1)).length = xs.length - (i + 1) := List.length_drop
  obtain ⟨ys, hys⟩ : ∃ ys, ys = xs.drop (i + 1) := ⟨_, rfl⟩
  rw [← hys] at hT hTl ⊢
  generalize xs.getD i (⟨#[]⟩, false) = x at *
  obtain ⟨a, b⟩ := x
  dsimp only at c1 c2
  have hL := fun w => isOnLeft_any a b w
  have hN := fun w => isOnNeither_any a b w
  have hyn : ys.length ≤ 1000 := by omega
  have hR := fun w o c hx hg hc => kindOnRight_any g o c ys w hx hg hyn hc hcall
  rw [hTl] at hR
  have hwi : IntKind.i64.wrap ((i : Int) + 1) = (i : Int) + 1 := by rw [IntKind.wrap_i64]; omega
  have hi1 : 0 ≤ (i : Int) + 1 := by omega
  have hin : (i : Int) + 1 ≤ (xs.length : Int) := by omega
  have hic : (i : Int) + 1 ≤ (cap : Int) := by omega
  have htz : ((i : Int) + 1).toNat = i + 1 := by omega
  have hnc : (xs.length : Int) ≤ (cap : Int) := by omega
  generalize hnn : xs.length = n at *
  have HYL := Lib.hid hTl
  have HT := Lib.hid hT
  have HR := Lib.hid hR
  clear hx hys hT hR hyn hnn hTl
  have hb1 := (Below.refl w.heap.size w).alloc (Nat.le_refl _) (.cells #[.string a, .bool b] 91 (0, 0))
  have hx1 := heap_alloc_at w (.cells #[.string a, .bool b] 91 (0, 0))
  obtain ⟨k1, k2, k3⟩ := two_facts hx1
  have hgw := Nat.lt_of_lt_of_le hg hb1.size
  by_cases h0 : i = 0
  · subst h0
    show Calls _ _ _ _ (Gives (.string sL0) w)
    clear HYL hwi hi1 hin hic htz hnc hL hN HT HR k1 k2 k3 hx1 hgw
    go_enter Tryd.func55, Tryd.ntmps55
    go_wp2_with fail
    go_ret
    exact ⟨rfl, hb1⟩
  · have hne : ((i : Int) == 0) = false := by rw [beq_eq_false_iff_ne]; omega
    rw [show kindK i (codeK (a, b)) (ys.map codeK) = if hasB a 49 = false then sLL else if hasB a 48 = false then korK (ys.map codeK) else inK b by
      unfold kindK codeK
      rw [if_neg h0]
      dsimp only
      cases hasB a 49 <;> cases hasB a 48 <;> cases b <;> rfl]
    generalize korK (ys.map codeK) = K at *
    generalize hasB a 49 = p at *
    generalize hasB a 48 = q at *
    have E := Lib.hid h0
    clear h0
    cases p with
    | false =>
      show Calls _ _ _ _ (Gives (.string sLL) w)
      clear hwi hi1 hin hic htz hnc hN HT HR hgw
      go_enter Tryd.func55, Tryd.ntmps55
      go_wp2_with fail
      refine (hL _).mono ?_; rintro e w1 ⟨rfl, hb2⟩
      go_wp2_with fail
      go_ret
      exact ⟨rfl, nx hb1 hb2⟩
    | true =>
      cases q with
      | false =>
        show Calls _ _ _ _ (Gives (.string K) w)
        go_enter Tryd.func55, Tryd.ntmps55
        go_wp2_with fail
        refine (hL _).mono ?_; rintro e w1 ⟨rfl, hb2⟩
        replace k1 := keep_cell hb2 k1
        replace k2 := keep_cell hb2 k2
        go_wp2_with fail
        refine (hN _).mono ?_; rintro e w2 ⟨rfl, hb3⟩
        have hbw := nx (nx hb1 hb2) hb3
        have ht3 := HT.out.keep hbw hg
        have hg3 := Nat.lt_of_lt_of_le hg hbw.size
        have HR3 := fun o c hx hc => HR.out _ o c hx hg3 hc
        have HR4 := Lib.hid HR3
        have HT3 := Lib.hid ht3
        clear HR3 ht3 HR HT hL hN k1 k2 k3 hx1 c1 c2 hb1 hb2 hb3 hgw hg hg3
        by_cases hcc : cap = i + 1
        · subst hcc
          have hnn : n = i + 1 := by omega
          subst hnn
          have hq : ∀ c, Calls Tryd.prog 72 #[.slice (some ⟨g, 0, none⟩) 0 c] w2 (Gives (.string K) w2) := fun c => by
            have h1 := HR4.out 0 c (fun k hk => by have := HYL.out; omega) (by omega)
            rw [Nat.sub_self] at h1
            exact h1
          clear hin hic hnc hc
          go_wp2_with fail
          refine (hq _).mono ?_; rintro e w4 ⟨rfl, hb4⟩
          go_wp2_with fail
          go_ret
          exact ⟨rfl, nx hbw hb4⟩
        · have hcc' : ¬ ((cap : Int) = (i : Int) + 1) := by omega
          go_wp2_with fail
          refine (HR4.out ((i + 1) * 2) (cap - (i + 1)) (by have := HT3.out; rw [Nat.zero_add] at this; exact this) (by omega)).mono ?_; rintro e w4 ⟨rfl, hb4⟩
          go_wp2_with fail
          go_ret
          exact ⟨rfl, nx hbw hb4⟩
      | true =>
        have hfin : ∀ b : Bool, Hid (b = b) := fun _ => Lib.hid rfl
        cases b with
        | true =>
          show Calls _ _ _ _ (Gives (.string sI0) w)
          clear hwi hi1 hin hic htz hnc HT HR hgw hfin
          go_enter Tryd.func55, Tryd.ntmps55
          go_wp2_with fail
          refine (hL _).mono ?_; rintro e w1 ⟨rfl, hb2⟩
          replace k1 := keep_cell hb2 k1
          replace k2 := keep_cell hb2 k2
          go_wp2_with fail
          refine (hN _).mono ?_; rintro e w2 ⟨rfl, hb3⟩
          replace k1 := keep_cell hb3 k1
          replace k2 := keep_cell hb3 k2
          go_wp2_with fail
          go_ret
          exact ⟨rfl, nx (nx hb1 hb2) hb3⟩
        | false =>
          show Calls _ _ _ _ (Gives (.string sIR) w)
          clear hwi hi1 hin hic htz hnc HT HR hgw hfin
          go_enter Tryd.func55, Tryd.ntmps55
          go_wp2_with fail
          refine (hL _).mono ?_; rintro e w1 ⟨rfl, hb2⟩
          replace k1 := keep_cell hb2 k1
          replace k2 := keep_cell hb2 k2
          go_wp2_with fail
          refine (hN _).mono ?_; rintro e w2 ⟨rfl, hb3⟩
          replace k1 := keep_cell hb3 k1
          replace k2 := keep_cell hb3 k2
          go_wp2_with fail
          go_ret
          exact ⟨rfl, nx (nx hb1 hb2) hb3⟩

theorem kindsFrom_snoc (l : List ByteArray) : ∀ (i k : Nat), k < l.length → (kindsFrom i l).take (k + 1) = (kindsFrom i l).take k ++ [kindK (i + k) (l.getD k ⟨#[]⟩) (l.drop (k + 1))] := by
  induction l with
  | nil => intro i k h; simp at h
  | cons x r ih =>
    intro i k h
    match k with
    | 0 => rfl
    | k + 1 =>
      have := ih (i + 1) k (by simpa using h)
      rw [kindsFrom, List.take_succ_cons, List.take_succ_cons, this, show i + 1 + k = i + (k + 1) by omega]
      rfl
theorem kindsFrom_length (l : List ByteArray) : ∀ i, (kindsFrom i l).length = l.length := by
  induction l with
  | nil => intro i; rfl
  | cons x r ih => intro i; simp [kindsFrom, ih]
set_option maxRecDepth 100000 in
set_option maxHeartbeats 2000000 in
theorem kindsOf_any (t : Tr) (w : World) (ht : t.carets ≤ 60) :
    Calls Tryd.prog 35 #[.string t.str] w (GivesS t.kinds w) := by
  obtain ⟨i0, hi, hz0, hz1, hz2⟩ := info_parts info_str
  have hT := fun w => treeOf_any t w (by omega)
  have hC := fun b w h => caretsFrom_any t b ⟨#[]⟩ w h ht (by show 0 + t.carets ≤ 1000; omega)
  have hl := cars_length t ⟨#[]⟩
  have hk := kinds_from t
  rw [← cars_raw] at hk
  have hcall : ∀ (args : Array Value) (w : World), (callFunc 71 args).run Tryd.prog w = .ok (.enter 71 args) w := fun _ _ => by kernel_rfl
  generalize t.cars ⟨#[]⟩ = xs at *
  have hn : xs.length ≤ 60 := by omega
  have HK := Lib.hid hk
  clear hk hl
  go_enter Tryd.func35, Tryd.ntmps35
  go_wp2_with fail
  refine (hT _).mono ?_; rintro e w1 ⟨b1, hn1, hb1, rfl⟩
  go_wp2_with fail
  refine (hC b1 _ hn1).mono ?_; rintro e w2 ⟨v2, own2, hb2, rfl⟩
  have hbw2 := nx hb1 hb2
  clear hT hC hn1 hb1 hb2
  rcases own2.cells with ⟨rfl, rfl⟩ | ⟨g, cap, rfl, _, hg, hc1, hc2, hat⟩
  · clear own2
    go_wp2_with fail
    go_loopw [4, 11] (fun v i wr => v = .slice none 0 0 ∧ i = .int .i64 0 ∧ wr = w2) (fun _ _ _ => 0)
    case atStart => exact ⟨rfl, rfl, rfl⟩
    case round =>
      obtain ⟨rfl, rfl, rfl⟩ := hrel
      go_wp2_with fail
      go_ret
      exact ⟨_, by rw [HK.out]; exact OwnS.nil _ _, hbw2, rfl⟩
  · have HA := Lib.hid hat
    clear own2 hat
    have HKA := fun w hx hg i hi => kindAt_any g cap i xs w hx hg (by omega) hc1 hc2 hi hcall
    obtain ⟨n, hnn⟩ : ∃ n, n = xs.length := ⟨_, rfl⟩
    rw [← hnn] at HKA hn hc1 ⊢
    have HN := Lib.hid hnn
    clear hnn
    go_wp2_with fail
    go_loopw [4, 11] (fun v i wr => ∃ k : Nat, k ≤ n ∧ i = .int .i64 k ∧ OwnS w2.heap.size wr v ((kindsFrom 0 (xs.map codeK)).take k) ∧ Below w2.heap.size w2 wr) (fun _ i _ => n - (intOf i).toNat)
    case atStart => exact ⟨0, Nat.zero_le _, rfl, OwnS.nil _ _, Below.refl _ _⟩
    case round =>
      obtain ⟨k, hk, rfl, hown, hbw⟩ := hrel
      by_cases hlt : k < n
      · have hlt' : (k : Int) < (n : Int) := by omega
        have hkx : k < xs.length := by have := HN.out; omega
        have hnext := kindsFrom_snoc (xs.map codeK) 0 k (by simpa using hkx)
        rw [Nat.zero_add, getD_map hkx, ← List.map_drop] at hnext
        have hlen : ((kindsFrom 0 (xs.map codeK)).take k).length = k := by rw [List.length_take, kindsFrom_length, List.length_map]; omega
        have hKA := HKA wr (HA.out.keep hbw hg) (Nat.lt_of_lt_of_le hg hbw.size) k hlt
        generalize kindK k (codeK (xs.getD k (⟨#[]⟩, false))) ((xs.drop (k + 1)).map codeK) = K at *
        generalize (kindsFrom 0 (xs.map codeK)).take k = ts at *
        have HNX := Lib.hid hnext
        have HH := Lib.hid hKA
        clear hnext hKA hkx
        go_wp2_with fail
        refine HH.out.mono ?_; rintro e w3 ⟨rfl, hb3⟩
        have hbw3 := nx hbw hb3
        have own3 := hown.keep hb3
        have hs3 := hbw3.size
        clear hown hbw hb3
        go_wp2_with (at_builtin; refine wpList_append_own _ rfl _ _ 47 rfl w2.heap.size 9 i0 (.string ⟨#[]⟩) 1 16 Tryd.underlying47 hi hz0 hz1 hz2 rfl (by decide) _ _ _ rfl (own3.alloc _) ⟨w3.heap.size, 0, none⟩ 1 1 [.string K] rfl rfl (new1 _ _ _) (one_str1 _) (by unfold maxLen; omega) (by omega) (by simp; omega) ?_; intro v' w9 hown' hgrow hnn)
        have hbw9 := (nxAlloc hbw3 (.cells #[.string K] 9 (0, 0))).grown hgrow (by simp; omega) (fun k hk => ownsRow_ge own3 k hk)
        have own9 := OwnS.snoc1 hown'
        clear own3 hown' hgrow hnn hbw3
        go_wp2_with fail
        go_roundw
        case rel => exact ⟨k + 1, by omega, by go_num, by rw [HNX.out]; exact own9, hbw9⟩
        case measure => simp [intOf]; omega
      · obtain rfl : k = n := by omega
        rw [List.take_of_length_le (by rw [kindsFrom_length, List.length_map]; have := HN.out; omega)] at hown
        go_wp2_with fail
        go_ret
        exact ⟨_, by rw [HK.out]; exact hown.mono hbw2.size, nx hbw2 hbw, rfl⟩
end Go.Proofs.YtlcepokenaiggaaDoor

/-! Ln7 -/
namespace Go.Proofs.YtlcepokenaiggaaDoor
open Go.RowKit

/-- The table of lengths, which reads so in whatever world is left. -/
def TabL (w : World) : Prop := Lib.TabBelow Tryd.prog w.heap.size w "loop.example/g01161/impl.kindLengths" .i64 tabK
theorem TabL.keep {w w' : World} (h : TabL w) (hb : Below w.heap.size w w') : TabL w' := fun w'' h2 => h w'' (nx hb h2)
theorem TabL.of {w : World} (h : Lib.TabIs Tryd.prog w "loop.example/g01161/impl.kindLengths" .i64 tabK) : TabL w := Lib.tabBelow_of_tabIs h
theorem TabL.cell {w : World} (h : TabL w) (i : Nat) (hi : i < 36) : w.cell? ⟨0, i, none⟩ = some (.int .i64 (tabK.getD i 0)) := Lib.TabIs.cell h.here (by kernel_rfl) i hi
set_option maxRecDepth 100000 in
set_option maxHeartbeats 2000000 in
theorem kindLength_any (a b : ByteArray) (w : World) (hT : TabL w) : Calls Tryd.prog 7 #[.string a, .string b] w (Gives (ansJ (lenO a b)) w) := by
  have hA := fun w => kindPlace_any a w
  have hB := fun w => kindPlace_any b w
  have ra := rowK_range a
  have rb := rowK_range b
  have ea := str_eq a sL0
  have eb := str_eq b sL0
  unfold lenO
  by_cases h0 : a = sL0 ∧ b = sL0
  · rw [if_pos h0]
    obtain ⟨rfl, rfl⟩ := h0
    clear hA hB ra rb ea eb
    unfold sL0
    go_enter Tryd.func7, Tryd.ntmps7
    go_wp2_with fail
    go_ret2
    exact ⟨rfl, Below.refl _ _⟩
  · rw [if_neg h0]
    have e0 : sL0.toList = [76, 48] := by rw [Lib.toList_data]; rfl
    rw [e0] at ea eb
    have hc : (a.toList == [76, 48]) = false ∨ ((a.toList == [76, 48]) = true ∧ (b.toList == [76, 48]) = false) := by
      rw [ea, eb]
      by_cases k : a = sL0
      · exact .inr ⟨by simp [k], by simp; exact fun e => h0 ⟨k, e⟩⟩
      · exact .inl (by simp [k])
    clear ea eb h0 e0
    generalize rowK a = x at *
    generalize rowK b = y at *
    by_cases h1 : x < 0 ∨ y < 0
    · rw [if_pos h1]
      have h1' : x < 0 ∨ (¬ x < 0 ∧ y < 0) := by omega
      clear h1
      rcases hc with hc | ⟨hc, hd⟩ <;> rcases h1' with h1 | ⟨h1, h2⟩
      all_goals
        go_enter Tryd.func7, Tryd.ntmps7
        go_wp2_with fail
        refine (hA _).mono ?_; rintro e w1 ⟨rfl, hb1⟩
        go_wp2_with fail
        refine (hB _).mono ?_; rintro e w2 ⟨rfl, hb2⟩
        go_wp2_with fail
        go_ret2
        exact ⟨rfl, nx hb1 hb2⟩
    · rw [if_neg h1]
      have h2 : 0 ≤ x ∧ x ≤ 5 ∧ 0 ≤ y ∧ y ≤ 5 := by omega
      obtain ⟨x0, x5, y0, y5⟩ := h2
      have hx : ¬ x < 0 := by omega
      have hy : ¬ y < 0 := by omega
      have hx6 : x < 6 := by omega
      have hy6 : y < 6 := by omega
      have hK := fun w (h : TabL w) => h.cell (x.toNat * 6 + y.toNat) (by omega)
      generalize tabK.getD (x.toNat * 6 + y.toNat) 0 = z at *
      clear h1 ra rb
      rcases hc with hc | ⟨hc, hd⟩
      all_goals
        go_enter Tryd.func7, Tryd.ntmps7
        go_wp2_with fail
        refine (hA _).mono ?_; rintro e w1 ⟨rfl, hb1⟩
        go_wp2_with fail
        refine (hB _).mono ?_; rintro e w2 ⟨rfl, hb2⟩
        have hc2 := hK w2 (hT.keep (nx hb1 hb2))
        go_wp2_with fail
        go_ret2
        exact ⟨rfl, nx hb1 hb2⟩
theorem specKindLength_any (a b : ByteArray) (w : World) (_ha : a.size ≤ 9223372036854775806) (_hb : b.size ≤ 9223372036854775806) : Calls Tryd.prog 6 #[.string a, .string b] w (Gives (ansJ (lenO a b)) w) := by
  have hT := fun w => lnTable_any a b w
  unfold ansJ at hT ⊢
  generalize (lenO a b).getD 0 = z at *
  generalize (lenO a b).isSome = q at *
  go_enter Tryd.func6, Tryd.ntmps6
  go_wp2_with fail
  refine (hT _).mono ?_; rintro e w1 ⟨rfl, hb1⟩
  go_wp2_with fail
  go_ret2
  exact ⟨rfl, hb1⟩
theorem implKindLength_any (a b : ByteArray) (w : World) (hT : TabL w) (_ha : a.size ≤ 9223372036854775806) (_hb : b.size ≤ 9223372036854775806) : Calls Tryd.prog 7 #[.string a, .string b] w (Gives (ansJ (lenO a b)) w) := kindLength_any a b w hT
end Go.Proofs.YtlcepokenaiggaaDoor

/-! Ln9 -/
namespace Go.Proofs.YtlcepokenaiggaaDoor
open Go.RowKit

set_option maxRecDepth 100000 in
set_option maxHeartbeats 2000000 in
theorem lengthOf_any (p : Pr) (w : World) (hT : TabL w) (hok : okP p) (h1 : p.1.carets ≤ 60) (h2 : p.2.carets ≤ 60) :
    Calls Tryd.prog 20 #[.agg #[.string p.1.str, .string p.2.str]] w (Gives (.int .i64 (lenP p)) w) := by
  have hA := fun w => kindsOf_any p.1 w h1
  have hB := fun w => kindsOf_any p.2 w h2
  obtain ⟨n, hn⟩ : ∃ n, n = p.1.kinds.length := ⟨_, rfl⟩
  have hnc : n = p.1.carets := by rw [hn, kinds_length]
  have hy : p.2.kinds.length = n := by rw [kinds_length, hnc]; exact hok.symm
  have hlen : lenP p = lenU p.1.kinds p.2.kinds n := by unfold lenP; rw [hn]
  have hx := hn.symm
  rw [hlen]
  clear hlen hn
  have hR := lenU_range p.1.kinds p.2.kinds
  have hS : ∀ k, lenU p.1.kinds p.2.kinds (k + 1) = lenU p.1.kinds p.2.kinds k + lenV (p.1.kinds.getD k ⟨#[]⟩) (p.2.kinds.getD k ⟨#[]⟩) := fun k => rfl
  have hV := lenV_range
  have hU0 : lenU p.1.kinds p.2.kinds 0 = 0 := rfl
  have hn60 : n ≤ 60 := by omega
  clear hnc
  generalize lenU p.1.kinds p.2.kinds = U at *
  generalize p.1.kinds = xs at *
  generalize p.2.kinds = ys at *
  go_enter Tryd.func20, Tryd.ntmps20
  go_wp2_with fail
  have hb0 : Below w.heap.size w (w.alloc (.cells #[.string p.1.str, .string p.2.str] 29 (0, 0))) := nxAlloc (Below.refl _ _) _
  have hx0 := heap_alloc_at w (.cells #[.string p.1.str, .string p.2.str] 29 (0, 0))
  generalize (w.alloc (.cells #[.string p.1.str, .string p.2.str] 29 (0, 0))) = w0 at *
  obtain ⟨hx0a, hx0b, hx0c⟩ := two_facts hx0
  obtain ⟨hx0f, hx0g⟩ := two_frozen hx0
  go_wp2_with fail
  refine (hB _).mono ?_; rintro e w1 ⟨v2, own2, hb1, rfl⟩
  have hbw1 := nx hb0 hb1
  replace hx0 := heap_keep hb1 hx0
  clear hx0a hx0b hx0c hx0f hx0g
  obtain ⟨hx0a, hx0b, hx0c⟩ := two_facts hx0
  obtain ⟨hx0f, hx0g⟩ := two_frozen hx0
  go_wp2_with fail
  refine (hA _).mono ?_; rintro e w2 ⟨v1, own1', hb2, rfl⟩
  have hbw2 := nx hbw1 hb2
  replace own2 := own2.keep hb2
  have hT2 := hT.keep hbw2
  clear hx0 hx0a hx0b hx0c hx0f hx0g hb0 hb1 hb2 hbw1 hA hB hT
  by_cases hn0 : n = 0
  · subst hn0
    obtain rfl := List.length_eq_zero_iff.1 hx
    have hv1 : (v1 = .slice none 0 0) ∨ ∃ g c, v1 = .slice (some ⟨g, 0, none⟩) 0 c := by
      rcases own1'.cells with ⟨h0, _⟩ | ⟨g1, cap1, h0, _⟩
      · exact .inl h0
      · exact .inr ⟨g1, cap1, h0⟩
    clear own1' own2 hS hR hV
    rcases hv1 with rfl | ⟨g, c, rfl⟩
    all_goals
      go_wp2_with fail
      go_loopw [3, 16] (fun s i wr => s = .int .i64 0 ∧ i = .int .i64 0 ∧ wr = w2) (fun _ _ _ => 0)
      case atStart => exact ⟨rfl, rfl, rfl⟩
      case round =>
        obtain ⟨rfl, rfl, rfl⟩ := hrel
        go_wp2_with fail
        go_ret
        exact ⟨by rw [hU0]; rfl, hbw2⟩
  · skip
    rcases own1'.cells with ⟨h0, h1⟩ | ⟨g1, cap1, rfl, _, hg1, hc1, hc2, hcell1, _⟩
    · rw [h1] at hx
      simp at hx
      omega
    rcases own2.cells with ⟨h0, h1⟩ | ⟨g2, cap2, rfl, _, hg2, hc3, hc4, hcell2, _⟩
    · rw [h1] at hy
      simp at hy
      omega
    rw [hx] at hc1 hcell1 ⊢
    rw [hy] at hc3 hcell2 ⊢
    have HC1 := Lib.hid hcell1
    have HC2 := Lib.hid hcell2
    unfold maxLen at hc2 hc4
    clear hcell1 hcell2 own1' own2
    go_wp2_with fail
    go_loopw [3, 16] (fun s i wr => ∃ k : Nat, k ≤ n ∧ i = .int .i64 k ∧ s = .int .i64 (U k) ∧ Below w2.heap.size w2 wr) (fun _ i _ => n - (intOf i).toNat)
    case atStart => exact ⟨0, Nat.zero_le _, rfl, by rw [hU0], Below.refl _ _⟩
    case round =>
      obtain ⟨k, hk, rfl, rfl, hbw⟩ := hrel
      by_cases hlt : k < n
      · have hlt' : (k : Int) < (n : Int) := by omega
        have d1 := HC1.out k (by omega)
        have d2 := HC2.out k (by omega)
        have hs := hS k
        have hr := hR k
        have hv := hV (xs.getD k ⟨#[]⟩) (ys.getD k ⟨#[]⟩)
        have hlv : ∀ a b, lenV a b = (lenO a b).getD 0 := fun _ _ => rfl
        rw [hlv] at hs hv
        generalize xs.getD k ⟨#[]⟩ = a at *
        generalize ys.getD k ⟨#[]⟩ = b at *
        have c1 := (hbw.cell (p := ⟨g1, k, none⟩) hg1).trans d1
        have c2 := (hbw.cell (p := ⟨g2, k, none⟩) hg2).trans d2
        have hL := fun w hT => kindLength_any a b w hT
        unfold ansJ at hL
        generalize (lenO a b).getD 0 = z at *
        generalize (lenO a b).isSome = q at *
        have hw : IntKind.i64.wrap (U k + z) = U k + z := by rw [IntKind.wrap_i64]; omega
        have HS := Lib.hid hs
        clear hs hlv hv hr hS hR hV d1 d2
        go_wp2_with fail
        refine (hL _ (hT2.keep hbw)).mono ?_; rintro e w3 ⟨rfl, hb3⟩
        have hbw3 := nx hbw hb3
        clear hb3 hbw c1 c2 hL
        go_wp2_with fail
        go_roundw
        case rel => exact ⟨k + 1, by omega, by go_num, by rw [HS.out], hbw3⟩
        case measure => simp [intOf]; omega
      · obtain rfl : k = n := by omega
        clear hS hR hV
        go_wp2_with fail
        go_ret
        exact ⟨rfl, nx hbw2 hbw⟩
end Go.Proofs.YtlcepokenaiggaaDoor

/-! WLengthOf -/
namespace Go.Proofs.YtlcepokenaiggaaDoor
open Go.RowKit

def LengthOf_o (a b : ByteArray) : Option Int := (pairOf a b).bind fun p => some (lenP (red p))
theorem red_small {p : Pr} (hok : okP p) (h : p.1.carets ≤ 60) : okP (red p) ∧ (red p).1.carets ≤ 60 ∧ (red p).2.carets ≤ 60 := by
  have h1 := red_ok hok []
  have h2 := redBy_carets p []
  unfold okP at hok
  exact ⟨h1, by show (redBy p []).1.carets ≤ 60; omega, by show (redBy p []).2.carets ≤ 60; omega⟩

set_option maxRecDepth 100000 in
set_option maxHeartbeats 1000000 in
theorem specLengthOf_any (a b : ByteArray) (w : World) (ha : a.size ≤ 9223372036854775806) (hb : b.size ≤ 9223372036854775806) :
    Calls Tryd.prog 9 #[.agg #[.string a, .string b]] w (Gives (ansJ (LengthOf_o a b)) w) := by
  have hg := fun w => prGood_any a b w ha hb
  unfold LengthOf_o
  cases h : pairOf a b with
  | none =>
    rw [h] at hg
    clear h
    go_enter Tryd.func9, Tryd.ntmps9
    go_wp2_with fail
    have hb0 : Below w.heap.size w (w.alloc (.cells #[.string a, .string b] 29 (0, 0))) := nxAlloc (Below.refl _ _) _
    have hx0 := heap_alloc_at w (.cells #[.string a, .string b] 29 (0, 0))
    generalize (w.alloc (.cells #[.string a, .string b] 29 (0, 0))) = w0 at *
    obtain ⟨hx0a, hx0b, hx0c⟩ := two_facts hx0
    obtain ⟨hx0f, hx0g⟩ := two_frozen hx0
    refine (hg _).mono ?_; rintro e w1 ⟨rfl, hb1⟩
    have hbw1 := nx hb0 hb1
    replace hx0 := heap_keep hb1 hx0
    clear hx0a hx0b hx0c hx0f hx0g
    obtain ⟨hx0a, hx0b, hx0c⟩ := two_facts hx0
    obtain ⟨hx0f, hx0g⟩ := two_frozen hx0
    clear hb1 hb0
    go_wp2_with fail
    go_ret2
    exact ⟨rfl, hbw1⟩
  | some p =>
    rw [h] at hg
    obtain ⟨rfl, rfl, hok, hc1, hc2⟩ := pairOf_some h
    obtain ⟨k1, k2, k3⟩ := red_small hok (by omega)
    have hL := fun w => lnOf_any (red p) w k1 k2 k3
    clear h
    show Calls _ _ _ _ (Gives (ansJ (some (lenP (red p)))) w)
    generalize lenP (red p) = z at *
    go_enter Tryd.func9, Tryd.ntmps9
    go_wp2_with fail
    have hb0 : Below w.heap.size w (w.alloc (.cells #[.string p.1.str, .string p.2.str] 29 (0, 0))) := nxAlloc (Below.refl _ _) _
    have hx0 := heap_alloc_at w (.cells #[.string p.1.str, .string p.2.str] 29 (0, 0))
    generalize (w.alloc (.cells #[.string p.1.str, .string p.2.str] 29 (0, 0))) = w0 at *
    obtain ⟨hx0a, hx0b, hx0c⟩ := two_facts hx0
    obtain ⟨hx0f, hx0g⟩ := two_frozen hx0
    refine (hg _).mono ?_; rintro e w1 ⟨rfl, hb1⟩
    have hbw1 := nx hb0 hb1
    replace hx0 := heap_keep hb1 hx0
    clear hx0a hx0b hx0c hx0f hx0g
    obtain ⟨hx0a, hx0b, hx0c⟩ := two_facts hx0
    obtain ⟨hx0f, hx0g⟩ := two_frozen hx0
    clear hb1 hb0
    go_wp2_with fail
    refine (prReduce_nil p _ (by omega) (by omega)).mono ?_; rintro e w2 ⟨rfl, hb2⟩
    have hbw2 := nx hbw1 hb2
    replace hx0 := heap_keep hb2 hx0
    clear hx0a hx0b hx0c hx0f hx0g
    obtain ⟨hx0a, hx0b, hx0c⟩ := two_facts hx0
    obtain ⟨hx0f, hx0g⟩ := two_frozen hx0
    clear hb2 hbw1
    go_wp2_with fail
    refine (hL _).mono ?_; rintro e w3 ⟨rfl, hb3⟩
    have hbw3 := nx hbw2 hb3
    replace hx0 := heap_keep hb3 hx0
    clear hx0a hx0b hx0c hx0f hx0g
    obtain ⟨hx0a, hx0b, hx0c⟩ := two_facts hx0
    obtain ⟨hx0f, hx0g⟩ := two_frozen hx0
    clear hb3 hbw2
    go_wp2_with fail
    go_ret2
    exact ⟨rfl, hbw3⟩

set_option maxRecDepth 100000 in
set_option maxHeartbeats 1000000 in
theorem implLengthOf_any (a b : ByteArray) (w : World) (hT : TabL w) (ha : a.size ≤ 9223372036854775806) (hb : b.size ≤ 9223372036854775806) :
    Calls Tryd.prog 11 #[.agg #[.string a, .string b]] w (Gives (ansJ (LengthOf_o a b)) w) := by
  have hg := fun w => implReducePair_any a b w ha hb
  unfold LengthOf_o
  cases h : pairOf a b with
  | none =>
    rw [h] at hg
    change ∀ w, Calls _ _ _ w (Gives (.tuple #[.agg #[.string ⟨#[]⟩, .string ⟨#[]⟩], .bool false]) w) at hg
    clear h
    go_enter Tryd.func11, Tryd.ntmps11
    go_wp2_with fail
    have hb0 : Below w.heap.size w (w.alloc (.cells #[.string a, .string b] 29 (0, 0))) := nxAlloc (Below.refl _ _) _
    have hx0 := heap_alloc_at w (.cells #[.string a, .string b] 29 (0, 0))
    generalize (w.alloc (.cells #[.string a, .string b] 29 (0, 0))) = w0 at *
    obtain ⟨hx0a, hx0b, hx0c⟩ := two_facts hx0
    obtain ⟨hx0f, hx0g⟩ := two_frozen hx0
    refine (hg _).mono ?_; rintro e w1 ⟨rfl, hb1⟩
    have hbw1 := nx hb0 hb1
    replace hx0 := heap_keep hb1 hx0
    clear hx0a hx0b hx0c hx0f hx0g
    obtain ⟨hx0a, hx0b, hx0c⟩ := two_facts hx0
    obtain ⟨hx0f, hx0g⟩ := two_frozen hx0
    clear hb1 hb0
    go_wp2_with fail
    go_ret2
    exact ⟨rfl, (hbw1.setCell (Nat.le_refl _) _).setCell (Nat.le_refl _) _⟩
  | some p =>
    rw [h] at hg
    obtain ⟨rfl, rfl, hok, hc1, hc2⟩ := pairOf_some h
    obtain ⟨k1, k2, k3⟩ := red_small hok (by omega)
    have hL := fun w hT => lengthOf_any (red p) w hT k1 k2 k3
    clear h
    change ∀ w, Calls _ _ _ w (Gives (.tuple #[.agg #[.string (red p).1.str, .string (red p).2.str], .bool true]) w) at hg
    show Calls _ _ _ _ (Gives (ansJ (some (lenP (red p)))) w)
    generalize lenP (red p) = z at *
    generalize (red p).1.str = A at *
    generalize (red p).2.str = B at *
    go_enter Tryd.func11, Tryd.ntmps11
    go_wp2_with fail
    have hb0 : Below w.heap.size w (w.alloc (.cells #[.string p.1.str, .string p.2.str] 29 (0, 0))) := nxAlloc (Below.refl _ _) _
    have hx0 := heap_alloc_at w (.cells #[.string p.1.str, .string p.2.str] 29 (0, 0))
    generalize (w.alloc (.cells #[.string p.1.str, .string p.2.str] 29 (0, 0))) = w0 at *
    obtain ⟨hx0a, hx0b, hx0c⟩ := two_facts hx0
    obtain ⟨hx0f, hx0g⟩ := two_frozen hx0
    refine (hg _).mono ?_; rintro e w1 ⟨rfl, hb1⟩
    have hbw1 := nx hb0 hb1
    replace hx0 := heap_keep hb1 hx0
    clear hx0a hx0b hx0c hx0f hx0g
    obtain ⟨hx0a, hx0b, hx0c⟩ := two_facts hx0
    obtain ⟨hx0f, hx0g⟩ := two_frozen hx0
    clear hb1 hb0
    have hbs := (hbw1.setCell (p := ⟨w.heap.size, 0, none⟩) (Nat.le_refl _) (.string A)).setCell (p := ⟨w.heap.size, 1, none⟩) (Nat.le_refl _) (.string B)
    obtain ⟨q1, q2⟩ := two_cells (set_two (.string A) (.string B) hx0)
    go_wp2_with fail
    refine (hL _ (hT.keep hbs)).mono ?_; rintro e w2 ⟨rfl, hb2⟩
    go_wp2_with fail
    go_ret2
    exact ⟨rfl, nx hbs hb2⟩

set_option maxRecDepth 100000 in
set_option maxHeartbeats 1000000 in
theorem fnExactLengthOf_walk (a0 : ByteArray) (ha0 : a0.size ≤ maxLen) (b0 : ByteArray) (hb0 : b0.size ≤ maxLen) (w : World) (hT : TabL w) :
    Calls Tryd.prog 4 #[.agg #[.string a0, .string b0]] w fun e w' => e = .returned (.bool true) ∧ Below w.heap.size w w' := by
  unfold maxLen at ha0 hb0
  have hsz0 := fun w => szPair_any a0 b0 w (by omega) (by omega) 1048576 (by omega) (by omega)
  by_cases hz0 : (a0.size : Int) + b0.size ≤ 1048576
  rotate_left
  · simp only [if_neg hz0] at hsz0
    go_enter Tryd.func4, Tryd.ntmps4
    go_wp2_with fail
    have hb0 : Below w.heap.size w (w.alloc (.cells #[.string a0, .string b0] 26 (0, 0))) := nxAlloc (Below.refl _ _) _
    have hx0 := heap_alloc_at w (.cells #[.string a0, .string b0] 26 (0, 0))
    generalize (w.alloc (.cells #[.string a0, .string b0] 26 (0, 0))) = w0 at *
    obtain ⟨ka0, kb0, kc0⟩ := two_facts hx0
    refine (hsz0 _).mono ?_; rintro e w1 ⟨rfl, hb1⟩
    have hbw1 := nx hb0 hb1
    replace hx0 := heap_keep hb1 hx0
    clear ka0 kb0 kc0
    obtain ⟨ka0, kb0, kc0⟩ := two_facts hx0
    clear hb1 hb0
    go_wp2_with fail
    go_ret
    exact ⟨rfl, hbw1⟩
  simp only [if_pos hz0] at hsz0
  have hS := fun w => specLengthOf_any a0 b0 w (by omega) (by omega)
  have hI := fun w hT => implLengthOf_any a0 b0 w hT (by omega) (by omega)
  have hS' : ∀ w, Calls Tryd.prog 9 #[.agg #[.string a0, .string b0]] w (Gives (ansJ (LengthOf_o a0 b0)) w) := hS
  have hI' : ∀ w, TabL w → Calls Tryd.prog 11 #[.agg #[.string a0, .string b0]] w (Gives (ansJ (LengthOf_o a0 b0)) w) := hI
  clear hS hI
  generalize (LengthOf_o a0 b0) = o at hS' hI'
  unfold ansJ at hS' hI'
  go_enter Tryd.func4, Tryd.ntmps4
  go_wp2_with fail
  have hb0 : Below w.heap.size w (w.alloc (.cells #[.string a0, .string b0] 26 (0, 0))) := nxAlloc (Below.refl _ _) _
  have hx0 := heap_alloc_at w (.cells #[.string a0, .string b0] 26 (0, 0))
  generalize (w.alloc (.cells #[.string a0, .string b0] 26 (0, 0))) = w0 at *
  obtain ⟨ka0, kb0, kc0⟩ := two_facts hx0
  refine (hsz0 _).mono ?_; rintro e w1 ⟨rfl, hb1⟩
  have hbw1 := nx hb0 hb1
  replace hx0 := heap_keep hb1 hx0
  clear ka0 kb0 kc0
  obtain ⟨ka0, kb0, kc0⟩ := two_facts hx0
  clear hb1 hb0
  go_wp2_with fail
  refine (toPair_any a0 b0 _).mono ?_; rintro e w2 ⟨rfl, hb2⟩
  have hbw2 := nx hbw1 hb2
  replace hx0 := heap_keep hb2 hx0
  clear ka0 kb0 kc0
  obtain ⟨ka0, kb0, kc0⟩ := two_facts hx0
  clear hb2 hbw1
  go_wp2_with fail
  refine (hS' _).mono ?_; rintro e w3 ⟨rfl, hb3⟩
  have hbw3 := nx hbw2 hb3
  replace hx0 := heap_keep hb3 hx0
  clear ka0 kb0 kc0
  obtain ⟨ka0, kb0, kc0⟩ := two_facts hx0
  clear hb3 hbw2
  go_wp2_with fail
  refine (toPair_any a0 b0 _).mono ?_; rintro e w4 ⟨rfl, hb4⟩
  have hbw4 := nx hbw3 hb4
  replace hx0 := heap_keep hb4 hx0
  clear ka0 kb0 kc0
  obtain ⟨ka0, kb0, kc0⟩ := two_facts hx0
  clear hb4 hbw3
  go_wp2_with fail
  refine (hI' _ (hT.keep hbw4)).mono ?_; rintro e w5 ⟨rfl, hb5⟩
  have hbw5 := nx hbw4 hb5
  replace hx0 := heap_keep hb5 hx0
  clear ka0 kb0 kc0
  obtain ⟨ka0, kb0, kc0⟩ := two_facts hx0
  clear hb5 hbw4
  go_wp2_with fail
  go_ret
  exact ⟨rfl, hbw5⟩
end Go.Proofs.YtlcepokenaiggaaDoor

/-! TabR -/
namespace Go.Proofs.YtlcepokenaiggaaDoor
open Go.RowKit

def tabRows : List (List Int) := [[0, 2, 2, 1, 1, 3], [2, 2, 2, 1, 1, 3], [2, 2, 2, 1, 3, 3], [1, 1, 1, 2, 2, 2], [1, 1, 3, 2, 2, 4], [3, 3, 3, 2, 4, 4]]
theorem rows_flat (n : Nat) : ∀ (zss : List (List Value)) (cs : List Value), cs.length = zss.length * n → (∀ i z, zss[i]? = some z → (cs.drop (i * n)).take n = z) → cs = zss.flatten := by
  intro zss
  induction zss with
  | nil => intro cs h _; exact List.length_eq_zero_iff.1 (by simpa using h)
  | cons z r ih =>
    intro cs h hz
    have h0 := hz 0 z rfl
    rw [Nat.zero_mul, List.drop_zero] at h0
    have e := ih (cs.drop n) (by rw [List.length_drop, h, List.length_cons, Nat.add_mul]; omega) (fun i y hy => by
      have := hz (i + 1) y (by simpa using hy)
      rw [List.drop_drop, show n + i * n = (i + 1) * n by rw [Nat.add_mul]; omega]
      exact this)
    rw [List.flatten_cons, ← e, ← h0, List.take_append_drop]
theorem cells_of_rows {H : Type} {enc : TypeId × Value → H} {P : Program} {w : World} {base : Nat} {sp : Nat → Bool} {held : Bool} {fuel : Nat} {t e f : TypeId} {m n : Nat} {k : IntKind} {cs : List Value} {zss : List (List Int)} {p : List MemPlace}
    (ht : P.underlying t = some (.array m e)) (he : P.underlying e = some (.array n f)) (hf : P.underlying f = some (.int k)) (hcf : P.cellsOf f = 1) (hce : P.cellsOf e = n) (hct : P.cellsOf t = m * n)
    (h : DataW.trod enc P w base sp held fuel t cs = some (.agg (zss.map fun zs => Lib.tabData k zs), p)) : cs = zss.flatten.map fun z => Value.int k z := by
  cases fuel with
  | zero => simp [DataW.trod] at h
  | succ fuel =>
    simp only [DataW.trod, ht, hce, hct] at h
    split at h
    · rename_i hl
      obtain ⟨xs, hm, hx⟩ := Option.map_eq_some_iff.1 h
      have hxs : xs.map (·.1) = zss.map fun zs => (Lib.tabData k zs : DataW H) := by
        have := congrArg Prod.fst hx
        simpa using this
      have hxl : xs.length = m := by simpa using Lib.mapM_length hm
      have hzl : zss.length = m := by
        have := congrArg List.length hxs
        simp at this
        omega
      have := rows_flat n (zss.map fun zs => zs.map fun z => Value.int k z) cs (by rw [List.length_map, hzl, hl]) (fun i z hz => by
        rw [List.getElem?_map, Option.map_eq_some_iff] at hz
        obtain ⟨zs, hzs, rfl⟩ := hz
        have hi : i < m := by rw [← hzl]; exact (List.getElem?_eq_some_iff.1 hzs).1
        obtain ⟨b, hb, hfb⟩ := Lib.mapM_at hm i i (by simp [hi])
        have h2 : (xs.map (·.1))[i]? = some b.1 := by simp [hb]
        rw [hxs, List.getElem?_map, hzs] at h2
        have h3 : b.1 = Lib.tabData k zs := (Option.some.inj h2).symm
        obtain ⟨b1, b2⟩ := b
        dsimp only at h3
        subst h3
        exact Lib.cells_of_tab he hf hcf hce hfb)
      rw [this, List.map_flatten]
    · cases h
end Go.Proofs.YtlcepokenaiggaaDoor

/-! LFnExactLengthOf -/
namespace Go.Proofs.YtlcepokenaiggaaDoor.fnExactLengthOf
open Go.ChangeShapes Go.WideShapes Go.ChangeAt Go.RowKit
open Go.ChangeMaps (open_string shut_string)
open Go.Joins (open_agg2 shut_agg2)
set_option linter.unusedVariables false

theorem cellsPair : Tryd.prog.cellsOf 26 = 2 := by kernel_rfl
theorem own : ownKnob Tryd.prog.godebug = none := by kernel_rfl
theorem laidOut : laidOutB Tryd.prog = true := by kernel_rfl

theorem rows_at {P : Program} {W : World} {name : String} {k : IntKind} {zss : List (List Int)} {rest : List (String × DataW Unit)} {g : Nat} {t e f : TypeId} {m n : Nat}
    (hg : P.globalNamed name = some g) (hty : (P.globals[g]?).map (·.type) = some t) (ht : P.underlying t = some (.array m e)) (he : P.underlying e = some (.array n f)) (hf : P.underlying f = some (.int k)) (hcf : P.cellsOf f = 1) (hce : P.cellsOf e = n) (hct : P.cellsOf t = m * n)
    (h : laidMet P ((name, .agg (zss.map fun zs => Lib.tabData k zs)) :: rest) W) : Lib.TabIs P W name k zss.flatten := by
  obtain ⟨ps, h0, _⟩ := h
  obtain ⟨g', t', cs, fuel, p, q, hg', ht', hvar, hd, _, _⟩ := h0
  obtain rfl := Option.some.inj (hg.symm.trans hg')
  obtain rfl := Option.some.inj (hty.symm.trans ht')
  unfold Lib.TabIs
  rw [hvar, ← cells_of_rows ht he hf hcf hce hct hd]

set_option maxRecDepth 100000 in
theorem lifted (os : Os) (started : os.Started) (H : Type) (enc : TypeId × Value → H) :
    ReturnsInHanded {} Tryd.checked os 4 .any (fun w args => (Rows.fnExactLengthOfSpec.pre enc Tryd.prog Tryd.f4 Rows.fnExactLengthOfRow.domain false w args ∧ laidMetH Tryd.prog Rows.fnExactLengthOfRow.laid w) ∧ sizedMet enc Tryd.prog Tryd.f4 (OpenSpec.ofChange Rows.fnExactLengthOfSpec) false w args)
      (Rows.fnExactLengthOfSpec.post enc Tryd.prog Tryd.f4 false true false false) := by
  refine returnsInHanded_of_change_and (C := Tryd.checked) (X := fun w _ => laidMetH Tryd.prog Rows.fnExactLengthOfRow.laid w) (fun _ _ _ hh h => h.of_heap hh) own started (by kernel_rfl) Tryd.func4
    (ChangeSpec.witness_shaped (enc := enc) (C := Tryd.checked) (os := os) (X := fun w _ => laidMetH Tryd.prog Rows.fnExactLengthOfRow.laid w) false (World.laidAll Tryd.prog os Rows.fnExactLengthOfRow.laid) #[.agg #[.string ByteArray.empty, .string ByteArray.empty]] 8 (World.laidAll_os _ _ _)
      (World.shaped_of_ZipB (by kernel_rfl) (by kernel_rfl)) (by kernel_rfl) (by kernel_rfl) (by kernel_rfl)
      (by rw [MakeChecks.laidMetH_plain _ _ _ (by kernel_rfl)]; exact laidMet_laidAll _ (by kernel_rfl) (by kernel_rfl))) ?_
  intro W base args ds gs before hval0 hW hc _ hL _
  have hval : ∀ (j : Nat) t v, Tryd.f4.params[j]? = some t → args[j]? = some v → Value.okWide Tryd.prog W .any base t v := hval0
  have hW' := hW
  obtain ⟨p, q, hA0, hV, rfl, hfz, hnd⟩ := hW
  have hA : DataW.TrodAll enc Tryd.prog W 0 (fun _ => true) true Tryd.f4.params.toList args.toList ds p := hA0
  rw [Tryd.params4] at hA hval
  obtain ⟨v0, vs0, d0, ds0, p0, q0, hargs, rfl, rfl, h0, r0⟩ := trodAll_cons hA
  obtain ⟨rfl, rfl, rfl⟩ := trodAll_nil r0
  obtain rfl : args = #[v0] := by cases args; simp_all
  obtain ⟨_, _, _, _, _, _, rfl, _, _, _, _, _⟩ := ChangeShapes.trodVars_one hV
  obtain ⟨c0a, c0b, y0a, y0b, m0, rfl, rfl, rfl, hy0a, hy0b⟩ := open_agg2 Tryd.underlying26 (by kernel_rfl) cellsPair (hval 0 26 v0 rfl rfl) h0
  obtain ⟨a0a, e0a, rfl, w0a⟩ := DataW.trod_string Tryd.underlying9 hy0a
  obtain ⟨a0b, e0b, rfl, w0b⟩ := DataW.trod_string Tryd.underlying9 hy0b
  simp at e0a e0b
  subst e0a e0b
  clear hA0 hval0
  simp only [List.append_nil] at hW'
  have hT : TabL W := by
    have hL2 := hL
    rw [MakeChecks.laidMetH_plain _ _ _ (by kernel_rfl)] at hL2
    have h2 := rows_at (g := 0) (t := 36) (e := 35) (f := 3) (m := 6) (n := 6) (k := .i64) (zss := tabRows) (by kernel_rfl) (by kernel_rfl) Tryd.underlying36 Tryd.underlying35 Tryd.underlying3 (by kernel_rfl) (by kernel_rfl) (by kernel_rfl) (show laidMet Tryd.prog (("loop.example/g01161/impl.kindLengths", .agg (tabRows.map fun zs => Lib.tabData .i64 zs)) :: _) W from hL2)
    exact TabL.of h2
  refine (fnExactLengthOf_walk a0a w0a a0b w0b W hT).mono fun e W' ⟨he, bel⟩ => ?_
  subst he
  exact ⟨_, rfl, _, _, _, [], _, _, hW', trodAll_mk1 (shut_bool Tryd.underlying4 _), (trodAll_cons_mk (shut_agg2 (y0 := (.lit (.string a0a.data.toList), [])) (y1 := (.lit (.string a0b.data.toList), [])) Tryd.underlying26 (by kernel_rfl) cellsPair (Go.Deep.shut_string_cell Tryd.underlying9 w0a) (Go.Deep.shut_string_cell Tryd.underlying9 w0b)) trodAll_mk0), Below.trodVars (by kernel_rfl) bel (by kernel_rfl) hV, bel.frame _, fun h => by cases h⟩

theorem over : Rows.fnExactLengthOfRow.holds Tryd.pinned (OpenSpec.ofChange Rows.fnExactLengthOfSpec) :=
  OpenClaim.holds_of_wide 4 Tryd.f4 rfl rfl rfl rfl rfl rfl rfl ⟨rfl, rfl, rfl, rfl, rfl⟩ rfl rfl rfl rfl rfl (by kernel_rfl) Tryd.func4 (by kernel_rfl)
    (of_decide_eq_true (by kernel_rfl)) (by unfold Func.isWrapper; first | (rw [if_pos (by decide +kernel)]; kernel_rfl) | (rw [if_neg (by decide +kernel)]; exact ⟨rfl, rfl⟩))
    (fun os started H enc _ => lifted os started H enc)

theorem plain (f : FuncId) (fn : Func) (hf : Tryd.pinned.checked.prog.funcNamed "loop.example/g01161/laws.FnExactLengthOf" = some f) (hfn : Tryd.pinned.checked.prog.funcs[f]? = some fn) :
    Rows.fnExactLengthOfCard.stood.looks = Tryd.pinned.checked.prog.looks [] ∧ ∀ (j : Nat) t, fn.params[j]? = some t → Tryd.pinned.checked.prog.wantsStandIn t = false := by
  obtain rfl : f = 4 := Option.some.inj ((show Tryd.prog.funcNamed "loop.example/g01161/laws.FnExactLengthOf" = some 4 by kernel_rfl).symm.trans hf) |>.symm
  obtain rfl : fn = Tryd.f4 := (Option.some.inj (Tryd.func4.symm.trans hfn)).symm
  refine ⟨by kernel_rfl, fun j t ht => ?_⟩
  rw [Tryd.params4] at ht
  have hm : t ∈ [26] := by simpa using Array.mem_of_getElem? ht
  have hall : ([26].all fun u => !Tryd.prog.wantsStandIn u) = true := by kernel_rfl
  exact (show Tryd.prog.wantsStandIn t = false by simpa using List.all_eq_true.1 hall t hm)

theorem proved : Rows.FnExactLengthOfCardSaid :=
  Claim7.holds_tied_plain_at .later [] _ _ _ _ over (fun _ h => by cases h) (by kernel_rfl) (fun _ h => by cases h) fnExactLengthOf_row_tie rfl ⟨rfl, rfl⟩ (by kernel_rfl) rfl plain (by kernel_rfl)
#print axioms proved
end Go.Proofs.YtlcepokenaiggaaDoor.fnExactLengthOf
