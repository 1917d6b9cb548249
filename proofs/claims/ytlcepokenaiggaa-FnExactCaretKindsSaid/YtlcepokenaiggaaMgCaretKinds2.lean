/- FnExactCaretKinds: for every input the law returns true and leaves its arguments as they were. No conditions. -/
import Derived.Test.YtlcepokenaiggaaMgCaretKinds1
import Derived.Deep.RegionHeld3
import Derived.Deep.AppendLies
import Derived.ProofKit
import Derived.OpenShut
import Derived.ShutString
import Derived.ChangeOld
import Derived.Below
/-! RedBy -/
namespace Go.Proofs.Ytlcepokenaiggaa
open Go.RowKit

theorem firstOf_any (n : Int) (w : World) : Calls Try.prog 50 #[.int .i64 n] w fun e w' => e = .returned (.int .i64 0) ∧ w = w' := by
  go_enter Try.func50, Try.ntmps50
  go_wp2
  go_ret
  exact ⟨rfl, rfl⟩

theorem sharedExposed_tr (p : Pr) (w : World) (k1 : p.1.carets ≤ 200) (k2 : p.2.carets ≤ 200) : Calls Try.prog 69 #[.agg #[.string p.1.str, .string p.2.str]] w (GivesInts (both p) w) := by
  have := sharedExposed_any p.1.str p.2.str w (by have := p.1.str_size; omega) (by have := p.2.str_size; omega)
  rwa [bothL_str] at this

theorem redBy_first {p : Pr} (hl : 0 < (both p).length) : red p = red (dropP p ((both p).getD 0 0)) := by
  have := redBy_pick (p := p) [] 0 hl rfl
  exact this

set_option maxRecDepth 100000 in
set_option maxHeartbeats 2000000 in
theorem reducedBy_first (p0 : Pr) (w : World) (h1 : p0.1.carets ≤ 200) (h2 : p0.2.carets ≤ 200) :
    Calls Try.prog 49 #[.agg #[.string p0.1.str, .string p0.2.str], .func (Fn.func 50) #[] #[]] w (Gives (.agg #[.string (red p0).1.str, .string (red p0).2.str]) w) := by
  go_enter Try.func49, Try.ntmps49
  go_wp2_with fail
  have hb0 : Below w.heap.size w ((w.alloc (.cells #[.string p0.1.str, .string p0.2.str] 33 (0, 0))).alloc (.cells #[.string ⟨#[]⟩, .string ⟨#[]⟩] 33 (0, 0))) := nxAlloc (nxAlloc (Below.refl _ _) _) _
  have hx1 := heap_keep (nxAlloc (Below.refl _ _) (.cells #[.string ⟨#[]⟩, .string ⟨#[]⟩] 33 (0, 0))) (heap_alloc_at w (.cells #[.string p0.1.str, .string p0.2.str] 33 (0, 0)))
  have hx2 := heap_alloc_at (w.alloc (.cells #[.string p0.1.str, .string p0.2.str] 33 (0, 0))) (.cells #[.string ⟨#[]⟩, .string ⟨#[]⟩] 33 (0, 0))
  generalize (w.alloc (.cells #[.string p0.1.str, .string p0.2.str] 33 (0, 0))).alloc (.cells #[.string ⟨#[]⟩, .string ⟨#[]⟩] 33 (0, 0)) = w0 at *
  have e2 : (w.alloc (.cells #[.string p0.1.str, .string p0.2.str] 33 (0, 0))).heap.size = w.heap.size + 1 := by simp
  rw [e2] at hx2
  clear e2
  have hs0 : w.heap.size + 1 < w0.heap.size := lt_of_block hx2
  go_loopw [5] (fun _ wr => ∃ (p : Pr), wr.heap[w.heap.size]? = some (.cells #[.string p.1.str, .string p.2.str] 33 (0, 0)) ∧ wr.heap[w.heap.size + 1]? = some (.cells #[.string ⟨#[]⟩, .string ⟨#[]⟩] 33 (0, 0)) ∧ Below w.heap.size w wr ∧ w.heap.size + 2 ≤ wr.heap.size ∧ p.1.carets ≤ 200 ∧ p.2.carets ≤ 200 ∧ Hid (red p0 = red p)) (fun _ wr => sizeAt wr w.heap.size)
  case atStart => exact ⟨p0, hx1, hx2, hb0, hs0, h1, h2, rfl⟩
  case round =>
    obtain ⟨p, hy1, hy2, hbw, hsz, hp1, hp2, he⟩ := hrel
    have HS1 := Lib.hid (sizeAt_of hy1)
    obtain ⟨k1, k2⟩ := two_cells hy1
    go_wp2_with fail
    refine (sharedExposed_tr p _ hp1 hp2).mono ?_; rintro e w1 ⟨v5, own, hb1, rfl⟩
    have hz1 := heap_keep hb1 hy1
    have hz2 := heap_keep hb1 hy2
    have hbw1 := nx hbw hb1
    have hsz1 := Nat.le_trans hsz hb1.size
    have hown : OwnI (w.heap.size + 2) w1 v5 (both p) := own.mono hsz
    have hf := hown.cells.form
    clear own hb1 hbw hsz k1 k2 hy1 hy2 hown
    obtain ⟨k1, k2⟩ := two_cells hz1
    obtain ⟨ob, bcap, rfl, hbc, hbm, hbcell⟩ := hf
    unfold maxLen at hbm
    by_cases hl : (both p).length = 0
    · have hnil : both p = [] := List.length_eq_zero_iff.1 hl
      have he' := he.out
      rw [(red_self p).2 hnil] at he'
      have HE := Lib.hid he'
      rw [hl]
      obtain ⟨n1, n2⟩ := two_cells hz2
      obtain ⟨f1, f2⟩ := two_frozen hz2
      clear hl hnil he he' hbcell
      go_wp2_with fail
      obtain ⟨r1, r2⟩ := two_cells (set_two (.string p.1.str) (.string p.2.str) hz2)
      refine bodyPost_ret (v := .agg #[.string p.1.str, .string p.2.str]) (by simp [r1, r2, results, Try.results49, go_sem]) rfl ⟨by rw [HE.out], ?_⟩
      exact (hbw1.setCell (by simp) _).setCell (by simp) _
    · -- a step
      have hlp : 0 < (both p).length := by omega
      have hlp' : (((both p).length : Int) == 0) = false := by rw [beq_eq_false_iff_ne]; omega
      have hst := redBy_first hlp
      obtain ⟨m1, m2, hx0, hx9⟩ := both_in p hp1 0 hlp
      obtain ⟨g, rfl, hg0, hg1, c1⟩ := hbcell 0 hlp
      obtain ⟨x, hx⟩ : ∃ x, x = (both p).getD 0 0 := ⟨_, rfl⟩
      rw [← hx] at hst m1 m2 c1 hx0 hx9
      have hstep := Lib.hid hst
      have T1 := fun w => withoutExposed_tr p.1 x w (by omega) m1
      have T2 := fun w => withoutExposed_tr p.2 x w (by omega) m2
      obtain ⟨hd1, hd2⟩ := dropP_carets (p := p) (n := x) (mem_both.2 ⟨m1, m2⟩)
      generalize hL : (both p).length = L at *
      have HL := Lib.hid hL
      have hlq : (0 : Int) < (L : Int) := by omega
      obtain ⟨f1, f2⟩ := two_frozen hz1
      clear hL hx hst m1 m2 hbcell hl
      go_wp2_with fail
      refine (firstOf_any _ _).mono ?_; rintro e w2 ⟨rfl, rfl⟩
      go_wp2_with fail
      refine (T1 _).mono ?_; rintro e w2 ⟨rfl, hb2⟩
      have hz1 := heap_keep hb2 hz1
      have hz2 := heap_keep hb2 hz2
      have hbw2 := nx hbw1 hb2
      have hsz2 := Nat.le_trans hsz1 hb2.size
      obtain ⟨n1, n2⟩ := two_cells hz1
      obtain ⟨f1, f2⟩ := two_frozen hz1
      clear c1 k1 k2 hb2 hbw1 hsz1
      go_wp2_with fail
      have hr1 := set_first (u' := .string (p.1.dropAt x).str) hz1
      have hr2 : (w2.setCell ⟨w.heap.size, 0, none⟩ (.string (p.1.dropAt x).str)).heap[w.heap.size + 1]? = some (.cells #[.string ⟨#[]⟩, .string ⟨#[]⟩] 33 (0, 0)) := by
        rw [Below.heap_setCell _ _ _ _ (by simp)]; exact hz2
      have hbw3 : Below w.heap.size w (w2.setCell ⟨w.heap.size, 0, none⟩ (.string (p.1.dropAt x).str)) := hbw2.setCell (Nat.le_refl _) _
      have hsz3 : w.heap.size + 2 ≤ (w2.setCell ⟨w.heap.size, 0, none⟩ (.string (p.1.dropAt x).str)).heap.size := by simpa using hsz2
      generalize w2.setCell ⟨w.heap.size, 0, none⟩ (.string (p.1.dropAt x).str) = w3 at *
      clear hz1 hz2 n1 n2 f1 f2 hbw2 hsz2
      refine (T2 _).mono ?_; rintro e w4 ⟨rfl, hb4⟩
      have hz1 := heap_keep hb4 hr1
      have hz2 := heap_keep hb4 hr2
      have hbw4 := nx hbw3 hb4
      have hsz4 := Nat.le_trans hsz3 hb4.size
      obtain ⟨n1, n2⟩ := two_cells hz1
      obtain ⟨f1, f2⟩ := two_frozen hz1
      clear hr1 hr2 hbw3 hsz3 hb4
      go_wp2_with fail
      have hu1 := set_second (v' := .string (p.2.dropAt x).str) hz1
      have hu2 : (w4.setCell ⟨w.heap.size, 1, none⟩ (.string (p.2.dropAt x).str)).heap[w.heap.size + 1]? = some (.cells #[.string ⟨#[]⟩, .string ⟨#[]⟩] 33 (0, 0)) := by
        rw [Below.heap_setCell _ _ _ _ (by simp)]; exact hz2
      have hbw5 : Below w.heap.size w (w4.setCell ⟨w.heap.size, 1, none⟩ (.string (p.2.dropAt x).str)) := hbw4.setCell (Nat.le_refl _) _
      have hsz5 : w.heap.size + 2 ≤ (w4.setCell ⟨w.heap.size, 1, none⟩ (.string (p.2.dropAt x).str)).heap.size := by simpa using hsz4
      go_roundw
      case rel => exact ⟨dropP p x, hu1, hu2, hbw5, hsz5, by omega, by omega, by show _ = _; rw [he.out, hstep.out]⟩
      case measure =>
        rw [sizeAt_of hu1, HS1.out, Tr.str_size, Tr.str_size]
        have hd1' : (p.1.dropAt x).carets + 1 = p.1.carets := hd1
        omega
end Go.Proofs.Ytlcepokenaiggaa

/-! WReducePair -/
namespace Go.Proofs.Ytlcepokenaiggaa
open Go.RowKit

theorem prReduce_nil (p : Pr) (w : World) (h1 : p.1.carets ≤ 200) (h2 : p.2.carets ≤ 200) :
    Calls Try.prog 25 #[.agg #[.string p.1.str, .string p.2.str], .slice none 0 0] w (Gives (.agg #[.string (red p).1.str, .string (red p).2.str]) w) :=
  prReduce_any p _ [] 0 w h1 h2 (.inl ⟨rfl, rfl⟩) (fun c hc => by simp at hc)

set_option maxHeartbeats 1000000 in
theorem implReducePair_any (a b : ByteArray) (w : World) (ha : a.size ≤ 9223372036854775806) (hb : b.size ≤ 9223372036854775806) :
    Calls Try.prog 28 #[.agg #[.string a, .string b]] w (Gives (ansPr ((pairOf a b).bind fun p => some (red p))) w) := by
  have hg := fun w => isPair_any a b w ha hb
  cases h : pairOf a b with
  | none =>
    rw [h] at hg
    clear h
    go_enter Try.func28, Try.ntmps28
    go_wp2_with fail
    have hb0 : Below w.heap.size w ((w.alloc (.cells #[.string a, .string b] 33 (0, 0))).alloc (.cells #[.string ⟨#[]⟩, .string ⟨#[]⟩] 33 (0, 0))) := nxAlloc (nxAlloc (Below.refl _ _) _) _
    have hx0 := heap_keep (nxAlloc (Below.refl _ _) (.cells #[.string ⟨#[]⟩, .string ⟨#[]⟩] 33 (0, 0))) (heap_alloc_at w (.cells #[.string a, .string b] 33 (0, 0)))
    have hx1 := heap_alloc_at (w.alloc (.cells #[.string a, .string b] 33 (0, 0))) (.cells #[.string ⟨#[]⟩, .string ⟨#[]⟩] 33 (0, 0))
    generalize ((w.alloc (.cells #[.string a, .string b] 33 (0, 0))).alloc (.cells #[.string ⟨#[]⟩, .string ⟨#[]⟩] 33 (0, 0))) = w0 at *
    have e1 : (w.alloc (.cells #[.string a, .string b] 33 (0, 0))).heap.size = w.heap.size + 1 := by simp
    rw [e1] at hx1
    clear e1
    obtain ⟨hx0a, hx0b, hx0c⟩ := two_facts hx0
    obtain ⟨hx0f, hx0g⟩ := two_frozen hx0
    obtain ⟨hx1a, hx1b, hx1c⟩ := two_facts hx1
    obtain ⟨hx1f, hx1g⟩ := two_frozen hx1
    refine (hg _).mono ?_; rintro e w1 ⟨rfl, hb1⟩
    have hbw1 := nx hb0 hb1
    replace hx0 := heap_keep hb1 hx0
    replace hx1 := heap_keep hb1 hx1
    clear hx0a hx0b hx0c hx0f hx0g
    obtain ⟨hx0a, hx0b, hx0c⟩ := two_facts hx0
    obtain ⟨hx0f, hx0g⟩ := two_frozen hx0
    clear hx1a hx1b hx1c hx1f hx1g
    obtain ⟨hx1a, hx1b, hx1c⟩ := two_facts hx1
    obtain ⟨hx1f, hx1g⟩ := two_frozen hx1
    clear hb1 hb0
    go_wp2_with fail
    obtain ⟨q1, q2⟩ := two_cells (set_two (.string ⟨#[]⟩) (.string ⟨#[]⟩) hx1)
    refine bodyPost_ret (v := .tuple #[.agg #[.string ⟨#[]⟩, .string ⟨#[]⟩], .bool false]) (by simp [q1, q2, results, Try.results28, go_sem]) rfl ⟨rfl, ?_⟩
    exact (hbw1.setCell (by show w.heap.size ≤ w.heap.size + 1; omega) _).setCell (by show w.heap.size ≤ w.heap.size + 1; omega) _
  | some p =>
    rw [h] at hg
    obtain ⟨rfl, rfl, hok, hc1, hc2⟩ := pairOf_some h
    clear h
    show Calls _ _ _ _ (Gives (ansPr (some (red p))) w)
    go_enter Try.func28, Try.ntmps28
    go_wp2_with fail
    have hb0 : Below w.heap.size w ((w.alloc (.cells #[.string p.1.str, .string p.2.str] 33 (0, 0))).alloc (.cells #[.string ⟨#[]⟩, .string ⟨#[]⟩] 33 (0, 0))) := nxAlloc (nxAlloc (Below.refl _ _) _) _
    have hx0 := heap_keep (nxAlloc (Below.refl _ _) (.cells #[.string ⟨#[]⟩, .string ⟨#[]⟩] 33 (0, 0))) (heap_alloc_at w (.cells #[.string p.1.str, .string p.2.str] 33 (0, 0)))
    have hx1 := heap_alloc_at (w.alloc (.cells #[.string p.1.str, .string p.2.str] 33 (0, 0))) (.cells #[.string ⟨#[]⟩, .string ⟨#[]⟩] 33 (0, 0))
    generalize ((w.alloc (.cells #[.string p.1.str, .string p.2.str] 33 (0, 0))).alloc (.cells #[.string ⟨#[]⟩, .string ⟨#[]⟩] 33 (0, 0))) = w0 at *
    have e1 : (w.alloc (.cells #[.string p.1.str, .string p.2.str] 33 (0, 0))).heap.size = w.heap.size + 1 := by simp
    rw [e1] at hx1
    clear e1
    obtain ⟨hx0a, hx0b, hx0c⟩ := two_facts hx0
    obtain ⟨hx0f, hx0g⟩ := two_frozen hx0
    obtain ⟨hx1a, hx1b, hx1c⟩ := two_facts hx1
    obtain ⟨hx1f, hx1g⟩ := two_frozen hx1
    refine (hg _).mono ?_; rintro e w1 ⟨rfl, hb1⟩
    have hbw1 := nx hb0 hb1
    replace hx0 := heap_keep hb1 hx0
    replace hx1 := heap_keep hb1 hx1
    clear hx0a hx0b hx0c hx0f hx0g
    obtain ⟨hx0a, hx0b, hx0c⟩ := two_facts hx0
    obtain ⟨hx0f, hx0g⟩ := two_frozen hx0
    clear hx1a hx1b hx1c hx1f hx1g
    obtain ⟨hx1a, hx1b, hx1c⟩ := two_facts hx1
    obtain ⟨hx1f, hx1g⟩ := two_frozen hx1
    clear hb1 hb0
    go_wp2_with fail
    refine (reducedBy_first p _ (by omega) (by omega)).mono ?_; rintro e w2 ⟨rfl, hb2⟩
    have hbw2 := nx hbw1 hb2
    replace hx0 := heap_keep hb2 hx0
    replace hx1 := heap_keep hb2 hx1
    clear hx0a hx0b hx0c hx0f hx0g
    obtain ⟨hx0a, hx0b, hx0c⟩ := two_facts hx0
    obtain ⟨hx0f, hx0g⟩ := two_frozen hx0
    clear hx1a hx1b hx1c hx1f hx1g
    obtain ⟨hx1a, hx1b, hx1c⟩ := two_facts hx1
    obtain ⟨hx1f, hx1g⟩ := two_frozen hx1
    clear hb2 hbw1
    go_wp2_with fail
    obtain ⟨q1, q2⟩ := two_cells (set_two (.string (red p).1.str) (.string (red p).2.str) hx1)
    refine bodyPost_ret (v := .tuple #[.agg #[.string (red p).1.str, .string (red p).2.str], .bool true]) (by simp [q1, q2, results, Try.results28, go_sem]) rfl ⟨rfl, ?_⟩
    exact (hbw2.setCell (by show w.heap.size ≤ w.heap.size + 1; omega) _).setCell (by show w.heap.size ≤ w.heap.size + 1; omega) _

end Go.Proofs.Ytlcepokenaiggaa

/-! Times -/
namespace Go.Proofs.Ytlcepokenaiggaa
open Go.RowKit

theorem keep_cell {w w' : World} {b o : Nat} {v : Value} (hb : Below w.heap.size w w') (h : w.cell? ⟨b, o, none⟩ = some v) : w'.cell? ⟨b, o, none⟩ = some v :=
  (hb.cell (p := ⟨b, o, none⟩) (World.block_lt_of_cell? _ _ h)).trans h

theorem treeOf_any (t : Tr) (w : World) (h : t.carets ≤ 1000) : Calls Try.prog 37 #[.string t.str] w (GivesNode t w) := by
  have hz := t.str_size
  have hp := place_any (t.str.size + 1) t.str
  rw [parse_str t _ (by have := t.text_len; omega)] at hp
  have hp' : ∀ w, Calls Try.prog 54 #[.string t.str] w (PlaceOk t [] t.str w) := fun w => hp w (by omega) (by omega)
  clear hz hp
  go_enter Try.func37, Try.ntmps37
  go_wp2_with fail
  refine (hp' _).mono ?_; rintro e w1 ⟨b1, s1, hs1, hz1, hn1, hb1, rfl⟩
  clear hs1 hz1
  go_wp2_with fail
  go_ret
  exact ⟨b1, hn1, hb1, rfl⟩

/-- What is asked of the factors of a product, and what its parts are. -/
theorem raw_len {p q : Pr} (hp : okP p) (hq : okP q) : (subsS p.2 (p.2.join q.1)).length = p.1.leaves ∧ (subsS q.1 (p.2.join q.1)).length = q.2.leaves := by
  have h1 := subsS_length p.2 _ (part_join p.2 q.1)
  have h2 := subsS_length q.1 _ (part_join' p.2 q.1)
  unfold okP Tr.leaves at *
  omega
theorem raw_fill1 {p q : Pr} (hp : okP p) (hq : okP q) : fillB p.1.str (subsS p.2 (p.2.join q.1)) = (rawP p q).1.str :=
  fillB_tr p.1 _ (by have := (raw_len hp hq).1; unfold subsS at this; simpa using this)
theorem raw_fill2 {p q : Pr} (hp : okP p) (hq : okP q) : fillB q.2.str (subsS q.1 (p.2.join q.1)) = (rawP p q).2.str :=
  fillB_tr q.2 _ (by have := (raw_len hp hq).2; unfold subsS at this; simpa using this)
theorem fillL_of {s : ByteArray} {us : List ByteArray} {t : Tr} (h : fillB s us = t.str) : fillL s.data.toList us = t.text := by
  have := congrArg (fun b : ByteArray => b.data.toList) h
  simpa [fillB, Tr.str] using this
theorem text_ne (t : Tr) : t.text ≠ [] := by cases t <;> simp [Tr.text]

theorem prFill_raw1 {p q : Pr} (hp : okP p) (hq : okP q) (h1 : p.1.carets ≤ 30) (h2 : q.1.carets ≤ 30) (b1 : Nat) (v : Value) (w : World) (hv : CellsS b1 w v (subsS p.2 (p.2.join q.1))) :
    Calls Try.prog 64 #[.string p.1.str, v] w (Gives (.string (rawP p q).1.str) w) := by
  have hl := raw_len hp hq
  have hr := rawP_carets hp hq
  have hj := join_carets p.2 q.1
  have ht := (rawP p q).1.text_len
  unfold okP at hp hq
  have hz := p.1.str_size
  unfold Tr.leaves at hl
  have := prFill_any b1 p.1.str v _ w (by omega) hv (by rw [Tr.str_list, text_dots]; omega) (by omega) (by rw [fillL_of (raw_fill1 hp hq)]; omega)
  rwa [raw_fill1 hp hq] at this

theorem prFill_raw2 {p q : Pr} (hp : okP p) (hq : okP q) (h1 : p.1.carets ≤ 30) (h2 : q.1.carets ≤ 30) (b1 : Nat) (v : Value) (w : World) (hv : CellsS b1 w v (subsS q.1 (p.2.join q.1))) :
    Calls Try.prog 64 #[.string q.2.str, v] w (Gives (.string (rawP p q).2.str) w) := by
  have hl := raw_len hp hq
  have hr := rawP_carets hp hq
  have hj := join_carets p.2 q.1
  have ht := (rawP p q).2.text_len
  unfold okP at hp hq
  have hz := q.2.str_size
  unfold Tr.leaves at hl
  have := prFill_any b1 q.2.str v _ w (by omega) hv (by rw [Tr.str_list, text_dots]; omega) (by omega) (by rw [fillL_of (raw_fill2 hp hq)]; omega)
  rwa [raw_fill2 hp hq] at this

theorem withLeaves_raw1 {p q : Pr} (hp : okP p) (hq : okP q) (h1 : p.1.carets ≤ 30) (h2 : q.1.carets ≤ 30) (b1 : Nat) (v : Value) (w : World) (hv : CellsS b1 w v (subsS p.2 (p.2.join q.1))) :
    Calls Try.prog 97 #[.string p.1.str, v] w (Gives (.string (rawP p q).1.str) w) := by
  have hl := raw_len hp hq
  have hr := rawP_carets hp hq
  have hj := join_carets p.2 q.1
  have ht := (rawP p q).1.text_len
  unfold okP at hp hq
  have hz := p.1.str_size
  unfold Tr.leaves at hl
  have := withLeaves_any b1 p.1.str v _ w (by omega) hv (by rw [Tr.str_list, text_dots]; omega) (by omega) (by rw [fillL_of (raw_fill1 hp hq)]; omega) (by rw [fillL_of (raw_fill1 hp hq)]; exact text_ne _)
  rwa [raw_fill1 hp hq] at this

theorem withLeaves_raw2 {p q : Pr} (hp : okP p) (hq : okP q) (h1 : p.1.carets ≤ 30) (h2 : q.1.carets ≤ 30) (b1 : Nat) (v : Value) (w : World) (hv : CellsS b1 w v (subsS q.1 (p.2.join q.1))) :
    Calls Try.prog 97 #[.string q.2.str, v] w (Gives (.string (rawP p q).2.str) w) := by
  have hl := raw_len hp hq
  have hr := rawP_carets hp hq
  have hj := join_carets p.2 q.1
  have ht := (rawP p q).2.text_len
  unfold okP at hp hq
  have hz := q.2.str_size
  unfold Tr.leaves at hl
  have := withLeaves_any b1 q.2.str v _ w (by omega) hv (by rw [Tr.str_list, text_dots]; omega) (by omega) (by rw [fillL_of (raw_fill2 hp hq)]; omega) (by rw [fillL_of (raw_fill2 hp hq)]; exact text_ne _)
  rwa [raw_fill2 hp hq] at this

set_option maxRecDepth 100000 in
set_option maxHeartbeats 4000000 in
theorem product_any (p q : Pr) (w : World) (hp : okP p) (hq : okP q) (h1 : p.1.carets ≤ 30) (h2 : q.1.carets ≤ 30) :
    Calls Try.prog 85 #[.agg #[.string p.1.str, .string p.2.str], .agg #[.string q.1.str, .string q.2.str]] w (Gives (.agg #[.string (mulP p q).1.str, .string (mulP p q).2.str]) w) := by
  have hr := rawP_carets hp hq
  have hj := join_carets p.2 q.1
  have hp' : p.1.carets = p.2.carets := hp
  have hq' : q.1.carets = q.2.carets := hq
  have T1 := fun w => treeOf_any p.2 w (by omega)
  have T2 := fun w => treeOf_any q.1 w (by omega)
  have W1 := fun b v w h => withLeaves_raw1 hp hq h1 h2 b v w h
  have W2 := fun b v w h => withLeaves_raw2 hp hq h1 h2 b v w h
  have RR : ∀ w, Calls Try.prog 49 #[.agg #[.string (rawP p q).1.str, .string (rawP p q).2.str], .func (Fn.func 50) #[] #[]] w (Gives (.agg #[.string (mulP p q).1.str, .string (mulP p q).2.str]) w) := fun w => reducedBy_first (rawP p q) w (by omega) (by omega)
  have PJ1 := part_join p.2 q.1
  have PJ2 := part_join' p.2 q.1
  have hjc : (p.2.join q.1).carets ≤ 60 := by omega
  clear hr hj
  go_enter Try.func85, Try.ntmps85
  go_wp2_with fail
  have hb0 : Below w.heap.size w (((w.alloc (.cells #[.string p.1.str, .string p.2.str] 33 (0, 0))).alloc (.cells #[.string q.1.str, .string q.2.str] 33 (0, 0))).alloc (.cells #[.string ⟨#[]⟩, .string ⟨#[]⟩] 33 (0, 0))) := nxAlloc (nxAlloc (nxAlloc (Below.refl _ _) _) _) _
  have hx0 := heap_keep (nxAlloc (Below.refl _ _) (.cells #[.string ⟨#[]⟩, .string ⟨#[]⟩] 33 (0, 0))) (heap_keep (nxAlloc (Below.refl _ _) (.cells #[.string q.1.str, .string q.2.str] 33 (0, 0))) (heap_alloc_at w (.cells #[.string p.1.str, .string p.2.str] 33 (0, 0))))
  have hx1 := heap_keep (nxAlloc (Below.refl _ _) (.cells #[.string ⟨#[]⟩, .string ⟨#[]⟩] 33 (0, 0))) (heap_alloc_at (w.alloc (.cells #[.string p.1.str, .string p.2.str] 33 (0, 0))) (.cells #[.string q.1.str, .string q.2.str] 33 (0, 0)))
  have hx2 := heap_alloc_at ((w.alloc (.cells #[.string p.1.str, .string p.2.str] 33 (0, 0))).alloc (.cells #[.string q.1.str, .string q.2.str] 33 (0, 0))) (.cells #[.string ⟨#[]⟩, .string ⟨#[]⟩] 33 (0, 0))
  generalize (((w.alloc (.cells #[.string p.1.str, .string p.2.str] 33 (0, 0))).alloc (.cells #[.string q.1.str, .string q.2.str] 33 (0, 0))).alloc (.cells #[.string ⟨#[]⟩, .string ⟨#[]⟩] 33 (0, 0))) = w0 at *
  have e1 : (w.alloc (.cells #[.string p.1.str, .string p.2.str] 33 (0, 0))).heap.size = w.heap.size + 1 := by simp
  rw [e1] at hx1
  clear e1
  have e2 : ((w.alloc (.cells #[.string p.1.str, .string p.2.str] 33 (0, 0))).alloc (.cells #[.string q.1.str, .string q.2.str] 33 (0, 0))).heap.size = w.heap.size + 1 + 1 := by simp
  rw [e2] at hx2
  clear e2
  obtain ⟨hx0a, hx0b, hx0c⟩ := two_facts hx0
  obtain ⟨hx0f, hx0g⟩ := two_frozen hx0
  obtain ⟨hx1a, hx1b, hx1c⟩ := two_facts hx1
  obtain ⟨hx1f, hx1g⟩ := two_frozen hx1
  obtain ⟨hx2a, hx2b, hx2c⟩ := two_facts hx2
  obtain ⟨hx2f, hx2g⟩ := two_frozen hx2
  have hz0 := Below.refl w0.heap.size w0
  go_region_held3 (fun w' => w'.cell? ⟨w.heap.size, 1, none⟩ = some (.string p.2.str) ∧ w'.cell? ⟨w.heap.size + 1, 0, none⟩ = some (.string q.1.str))
    (first
      | exact ⟨hx0b, hx1a⟩
      | exact ⟨A1, A2⟩
      | exact ⟨B1, B2⟩)
    (first
      | (go_at_call 37; (with_reducible refine (T1 _).mono ?_); rintro e w1 ⟨b1, hn1, hb1, rfl⟩; have hb1' := nx hz0.drew hb1; have A1 := keep_cell hb1' hx0b; have A2 := keep_cell hb1' hx1a)
      | (go_at_call 37; (with_reducible refine (T2 _).mono ?_); rintro e w2 ⟨b2, hn2, hb2, rfl⟩; have hb2' := nx hb1' hb2; have B1 := keep_cell hb2' hx0b; have B2 := keep_cell hb2' hx1a))
  go_wp2_with fail
  have hn1' := hn1.keep hb2
  refine (join_any p.2 q.1 b1 b2 _ hn1' hn2).mono ?_; rintro e w3 ⟨b3, hn3, hb3, rfl⟩
  have hbw3 := nx hb0 (nx hb2' hb3)
  have m1 := hn1'.keep hb3
  have m2 := hn2.keep hb3
  have hy0 := heap_keep (nx hb2' hb3) hx0
  have hy1 := heap_keep (nx hb2' hb3) hx1
  have hy2 := heap_keep (nx hb2' hb3) hx2
  have hb00 := Below.refl w3.heap.size w3
  clear hx0 hx1 hx2 hx0a hx0b hx0c hx0f hx0g hx1a hx1b hx1c hx1f hx1g hx2a hx2b hx2c hx2f hx2g A1 A2 B1 B2 hn1 hn2 hn1' hb1 hb2 hb1' hb2' hb3 hz0 hb0 T1 T2
  obtain ⟨k1, _⟩ := two_cells hy0
  obtain ⟨_, k2⟩ := two_cells hy1
  generalize hJ : p.2.join q.1 = J at *
  clear hJ
  go_wp2_with fail
  go_region_held3 (fun w' => w'.cell? ⟨w.heap.size, 0, none⟩ = some (.string p.1.str) ∧ w'.cell? ⟨w.heap.size + 1, 1, none⟩ = some (.string q.2.str))
    (first
      | exact ⟨k1, k2⟩
      | exact ⟨A1, A2⟩
      | exact ⟨B1, B2⟩
      | exact ⟨C1, C2⟩
      | exact ⟨D1, D2⟩
      | exact ⟨E1, E2⟩
      | exact ⟨G1, G2⟩)
    (first
      | (go_at_call_of 98 (some (⟨b1, 0, none⟩ : Addr)); refine (below_any p.2 J b1 b3 _ ?_ ?_ PJ1 hjc).mono ?_; exact m1.keep hb00.drew; exact hn3.keep hb00.drew; rintro e w4 ⟨g1, cap1, own1, hb4, rfl⟩; have hb4' := nx hb00.drew hb4; have A1 := keep_cell hb4' k1; have A2 := keep_cell hb4' k2)
      | (go_at_call_of 97 (some (⟨g1, 0, none⟩ : Addr)); refine (W1 _ _ _ own1.cells).mono ?_; rintro e w5 ⟨rfl, hb5⟩; have hb5' := nx hb4' hb5; have B1 := keep_cell hb5' k1; have B2 := keep_cell hb5' k2)
      | (go_at_call_of 98 (some (⟨b2, 0, none⟩ : Addr)); refine (below_any q.1 J b2 b3 _ ?_ ?_ PJ2 hjc).mono ?_; exact m2.keep hb5'; exact hn3.keep hb5'; rintro e w6 ⟨g2, cap2, own2, hb6, rfl⟩; have hb6' := nx hb5' hb6; have C1 := keep_cell hb6' k1; have C2 := keep_cell hb6' k2)
      | (go_at_call_of 97 (some (⟨g2, 0, none⟩ : Addr)); refine (W2 _ _ _ own2.cells).mono ?_; rintro e w7 ⟨rfl, hb7⟩; have hb7' := nx hb6' hb7; have D1 := keep_cell hb7' k1; have D2 := keep_cell hb7' k2)
      | (go_at_call 49; refine (RR _).mono ?_; rintro e w8 ⟨rfl, hb8⟩; have hb8' := nx hb7' hb8; have E1 := keep_cell hb8' k1; have E2 := keep_cell hb8' k2; have hz2 := heap_keep hb8' hy2; have hz0 := heap_keep hb8' hy0; have hz1 := heap_keep hb8' hy1; obtain ⟨n1, n2⟩ := two_cells hz2; obtain ⟨f1, f2⟩ := two_frozen hz2; have hq0 := (Below.heap_setCell (w8.setCell ⟨w.heap.size + 1 + 1, 0, none⟩ (.string (mulP p q).1.str)) ⟨w.heap.size + 1 + 1, 1, none⟩ (.string (mulP p q).2.str) w.heap.size (by show ¬ w.heap.size = w.heap.size + 1 + 1; omega)).trans ((Below.heap_setCell w8 ⟨w.heap.size + 1 + 1, 0, none⟩ (.string (mulP p q).1.str) w.heap.size (by show ¬ w.heap.size = w.heap.size + 1 + 1; omega)).trans hz0); have hq1 := (Below.heap_setCell (w8.setCell ⟨w.heap.size + 1 + 1, 0, none⟩ (.string (mulP p q).1.str)) ⟨w.heap.size + 1 + 1, 1, none⟩ (.string (mulP p q).2.str) (w.heap.size + 1) (by show ¬ w.heap.size + 1 = w.heap.size + 1 + 1; omega)).trans ((Below.heap_setCell w8 ⟨w.heap.size + 1 + 1, 0, none⟩ (.string (mulP p q).1.str) (w.heap.size + 1) (by show ¬ w.heap.size + 1 = w.heap.size + 1 + 1; omega)).trans hz1); have G1 := (two_cells hq0).1; have G2 := (two_cells hq1).2))
  go_wp2_with fail
  obtain ⟨q1, q2⟩ := two_cells (set_two (.string (mulP p q).1.str) (.string (mulP p q).2.str) hz2)
  refine bodyPost_ret (v := .agg #[.string (mulP p q).1.str, .string (mulP p q).2.str]) (by simp [q1, q2, results, Try.results85, go_sem]) rfl ⟨rfl, ?_⟩
  exact ((nx hbw3 hb8').setCell (by show w.heap.size ≤ w.heap.size + 1 + 1; omega) _).setCell (by show w.heap.size ≤ w.heap.size + 1 + 1; omega) _

set_option maxRecDepth 100000 in
set_option maxHeartbeats 4000000 in
theorem prTimes_any (p q : Pr) (w : World) (hp : okP p) (hq : okP q) (h1 : p.1.carets ≤ 30) (h2 : q.1.carets ≤ 30) :
    Calls Try.prog 45 #[.agg #[.string p.1.str, .string p.2.str], .agg #[.string q.1.str, .string q.2.str]] w (Gives (.agg #[.string (mulP p q).1.str, .string (mulP p q).2.str]) w) := by
  have hr := rawP_carets hp hq
  have hj := join_carets p.2 q.1
  have hp' : p.1.carets = p.2.carets := hp
  have hq' : q.1.carets = q.2.carets := hq
  have W1 := fun b v w h => prFill_raw1 hp hq h1 h2 b v w h
  have W2 := fun b v w h => prFill_raw2 hp hq h1 h2 b v w h
  have RR : ∀ w, Calls Try.prog 25 #[.agg #[.string (rawP p q).1.str, .string (rawP p q).2.str], .slice none 0 0] w (Gives (.agg #[.string (mulP p q).1.str, .string (mulP p q).2.str]) w) := fun w => prReduce_nil (rawP p q) w (by omega) (by omega)
  have P1 := fun w => prParts_any p.2 (p.2.join q.1) w (part_join p.2 q.1) (by omega)
  have P2 := fun w => prParts_any q.1 (p.2.join q.1) w (part_join' p.2 q.1) (by omega)
  have J := fun w => trJoin_any p.2 q.1 w (by omega) (by omega)
  clear hr hj
  go_enter Try.func45, Try.ntmps45
  go_wp2_with fail
  have hb0 : Below w.heap.size w (((w.alloc (.cells #[.string p.1.str, .string p.2.str] 33 (0, 0))).alloc (.cells #[.string q.1.str, .string q.2.str] 33 (0, 0))).alloc (.cells #[.string ⟨#[]⟩, .string ⟨#[]⟩] 33 (0, 0))) := nxAlloc (nxAlloc (nxAlloc (Below.refl _ _) _) _) _
  have hx0 := heap_keep (nxAlloc (Below.refl _ _) (.cells #[.string ⟨#[]⟩, .string ⟨#[]⟩] 33 (0, 0))) (heap_keep (nxAlloc (Below.refl _ _) (.cells #[.string q.1.str, .string q.2.str] 33 (0, 0))) (heap_alloc_at w (.cells #[.string p.1.str, .string p.2.str] 33 (0, 0))))
  have hx1 := heap_keep (nxAlloc (Below.refl _ _) (.cells #[.string ⟨#[]⟩, .string ⟨#[]⟩] 33 (0, 0))) (heap_alloc_at (w.alloc (.cells #[.string p.1.str, .string p.2.str] 33 (0, 0))) (.cells #[.string q.1.str, .string q.2.str] 33 (0, 0)))
  have hx2 := heap_alloc_at ((w.alloc (.cells #[.string p.1.str, .string p.2.str] 33 (0, 0))).alloc (.cells #[.string q.1.str, .string q.2.str] 33 (0, 0))) (.cells #[.string ⟨#[]⟩, .string ⟨#[]⟩] 33 (0, 0))
  generalize (((w.alloc (.cells #[.string p.1.str, .string p.2.str] 33 (0, 0))).alloc (.cells #[.string q.1.str, .string q.2.str] 33 (0, 0))).alloc (.cells #[.string ⟨#[]⟩, .string ⟨#[]⟩] 33 (0, 0))) = w0 at *
  have e1 : (w.alloc (.cells #[.string p.1.str, .string p.2.str] 33 (0, 0))).heap.size = w.heap.size + 1 := by simp
  rw [e1] at hx1
  clear e1
  have e2 : ((w.alloc (.cells #[.string p.1.str, .string p.2.str] 33 (0, 0))).alloc (.cells #[.string q.1.str, .string q.2.str] 33 (0, 0))).heap.size = w.heap.size + 1 + 1 := by simp
  rw [e2] at hx2
  clear e2
  obtain ⟨hx0a, hx0b, hx0c⟩ := two_facts hx0
  obtain ⟨hx0f, hx0g⟩ := two_frozen hx0
  obtain ⟨hx1a, hx1b, hx1c⟩ := two_facts hx1
  obtain ⟨hx1f, hx1g⟩ := two_frozen hx1
  obtain ⟨hx2a, hx2b, hx2c⟩ := two_facts hx2
  obtain ⟨hx2f, hx2g⟩ := two_frozen hx2
  refine (J _).mono ?_; rintro e w1 ⟨rfl, hb1⟩
  have hbw1 := nx hb0 hb1
  replace hx0 := heap_keep hb1 hx0
  replace hx1 := heap_keep hb1 hx1
  replace hx2 := heap_keep hb1 hx2
  clear hx0a hx0b hx0c hx0f hx0g
  obtain ⟨hx0a, hx0b, hx0c⟩ := two_facts hx0
  obtain ⟨hx0f, hx0g⟩ := two_frozen hx0
  clear hx1a hx1b hx1c hx1f hx1g
  obtain ⟨hx1a, hx1b, hx1c⟩ := two_facts hx1
  obtain ⟨hx1f, hx1g⟩ := two_frozen hx1
  clear hx2a hx2b hx2c hx2f hx2g
  obtain ⟨hx2a, hx2b, hx2c⟩ := two_facts hx2
  obtain ⟨hx2f, hx2g⟩ := two_frozen hx2
  clear hb1 hb0
  have hb00 := Below.refl w1.heap.size w1
  generalize p.2.join q.1 = G at *
  go_wp2_with fail
  go_region_held3 (fun w' => w'.cell? ⟨w.heap.size, 0, none⟩ = some (.string p.1.str) ∧ w'.cell? ⟨w.heap.size, 1, none⟩ = some (.string p.2.str) ∧ w'.cell? ⟨w.heap.size + 1, 0, none⟩ = some (.string q.1.str) ∧ w'.cell? ⟨w.heap.size + 1, 1, none⟩ = some (.string q.2.str))
    (first
      | exact ⟨hx0a, hx0b, hx1a, hx1b⟩
      | exact ⟨A1.1, A1.2, A2.1, A2.2⟩
      | exact ⟨B1.1, B1.2, B2.1, B2.2⟩
      | exact ⟨C1.1, C1.2, C2.1, C2.2⟩
      | exact ⟨D1.1, D1.2, D2.1, D2.2⟩
      | exact ⟨E1.1, E1.2, E2.1, E2.2⟩
      | exact ⟨G1.1, G1.2, G2.1, G2.2⟩)
    (first
      | (go_at_call 65; (with_reducible refine (P1 _).mono ?_); rintro e w4 ⟨g1, cap1, own1, hb4, rfl⟩; have hb4' := nx hb00.drew hb4; have A1 := two_cells (heap_keep hb4' hx0); have A2 := two_cells (heap_keep hb4' hx1))
      | (go_at_call_of 64 (some (⟨g1, 0, none⟩ : Addr)); refine (W1 _ _ _ own1.cells).mono ?_; rintro e w5 ⟨rfl, hb5⟩; have hb5' := nx hb4' hb5; have B1 := two_cells (heap_keep hb5' hx0); have B2 := two_cells (heap_keep hb5' hx1))
      | (go_at_call 65; (with_reducible refine (P2 _).mono ?_); rintro e w6 ⟨g2, cap2, own2, hb6, rfl⟩; have hb6' := nx hb5' hb6; have C1 := two_cells (heap_keep hb6' hx0); have C2 := two_cells (heap_keep hb6' hx1))
      | (go_at_call_of 64 (some (⟨g2, 0, none⟩ : Addr)); refine (W2 _ _ _ own2.cells).mono ?_; rintro e w7 ⟨rfl, hb7⟩; have hb7' := nx hb6' hb7; have D1 := two_cells (heap_keep hb7' hx0); have D2 := two_cells (heap_keep hb7' hx1))
      | (go_at_call 25; refine (RR _).mono ?_; rintro e w8 ⟨rfl, hb8⟩; have hb8' := nx hb7' hb8; have hz0 := heap_keep hb8' hx0; have hz1 := heap_keep hb8' hx1; have hz2 := heap_keep hb8' hx2; have E1 := two_cells hz0; have E2 := two_cells hz1; obtain ⟨n1, n2⟩ := two_cells hz2; obtain ⟨f1, f2⟩ := two_frozen hz2; have hq0 := (Below.heap_setCell (w8.setCell ⟨w.heap.size + 1 + 1, 0, none⟩ (.string (mulP p q).1.str)) ⟨w.heap.size + 1 + 1, 1, none⟩ (.string (mulP p q).2.str) w.heap.size (by show ¬ w.heap.size = w.heap.size + 1 + 1; omega)).trans ((Below.heap_setCell w8 ⟨w.heap.size + 1 + 1, 0, none⟩ (.string (mulP p q).1.str) w.heap.size (by show ¬ w.heap.size = w.heap.size + 1 + 1; omega)).trans hz0); have hq1 := (Below.heap_setCell (w8.setCell ⟨w.heap.size + 1 + 1, 0, none⟩ (.string (mulP p q).1.str)) ⟨w.heap.size + 1 + 1, 1, none⟩ (.string (mulP p q).2.str) (w.heap.size + 1) (by show ¬ (w.heap.size + 1) = w.heap.size + 1 + 1; omega)).trans ((Below.heap_setCell w8 ⟨w.heap.size + 1 + 1, 0, none⟩ (.string (mulP p q).1.str) (w.heap.size + 1) (by show ¬ (w.heap.size + 1) = w.heap.size + 1 + 1; omega)).trans hz1); have G1 := two_cells hq0; have G2 := two_cells hq1))
  go_wp2_with fail
  obtain ⟨q1, q2⟩ := two_cells (set_two (.string (mulP p q).1.str) (.string (mulP p q).2.str) hz2)
  refine bodyPost_ret (v := .agg #[.string (mulP p q).1.str, .string (mulP p q).2.str]) (by simp [q1, q2, results, Try.results45, go_sem]) rfl ⟨rfl, ?_⟩
  exact ((nx hbw1 hb8').setCell (by show w.heap.size ≤ w.heap.size + 1 + 1; omega) _).setCell (by show w.heap.size ≤ w.heap.size + 1 + 1; omega) _
end Go.Proofs.Ytlcepokenaiggaa

/-! HeldW -/
namespace Go.Proofs.Ytlcepokenaiggaa
open Go.RowKit

section
variable {P : Program} {ops : Array Oper} {Q : Exit → Act → World → Prop} {md : Region.Mode}

theorem held_mono {S S' : World → Prop} (hSS : ∀ w, S' w → S w) : ∀ (fuel : Nat) (listed : Array Bool) (a : Act) (w : World),
    wpAnyH P md ops Q S' fuel listed a w → wpAnyH P md ops Q S fuel listed a w
  | 0, _, _, _, h => h
  | fuel + 1, _, _, _, h => ⟨h.1, fun i hi => wpOp_mono (fun a' w' h' => ⟨hSS _ h'.1, held_mono hSS fuel _ a' w' h'.2⟩) (h.2 i hi)⟩

/-- One operation alone may come up; behind it the condition may be another one. -/
theorem held_one {S : World → Prop} {fuel : Nat} {listed : Array Bool} {a : Act} {w : World} (i : Nat) {o : Oper} (ho : ops[i]? = some o) (hr : Region.ready md ops listed = [i])
    (h : ∀ K' : Act → World → Prop, Shut (∀ (S' : World → Prop) a w, (∀ w, S' w → S w) → S' w → wpAnyH P md ops Q S' fuel (listed.setIfInBounds i true) a w → K' a w) → if Region.wanted o (yielded ops a.tmps) = true then Oper.wp P o a w K' Q else K' (a.put o.dst undef) w) :
    wpAnyH P md ops Q S (fuel + 1) listed a w :=
  wpAnyH_ready hr (by simp) (AllReadyH.cons ho (fun K hK => h K (fun _ a w hSS hS hW => hK.out a w (hSS _ hS) (fun _ => held_mono hSS _ _ _ _ hW))) AllReadyH.nil)
/-- Two operations may come up, whichever first. -/
theorem held_two {S : World → Prop} {fuel : Nat} {listed : Array Bool} {a : Act} {w : World} (i j : Nat) {oi oj : Oper} (hoi : ops[i]? = some oi) (hoj : ops[j]? = some oj) (hr : Region.ready md ops listed = [i, j])
    (h : ∀ K' : Act → World → Prop, Shut (∀ (S' : World → Prop) a w, (∀ w, S' w → S w) → S' w → wpAnyH P md ops Q S' fuel (listed.setIfInBounds i true) a w → K' a w) → if Region.wanted oi (yielded ops a.tmps) = true then Oper.wp P oi a w K' Q else K' (a.put oi.dst undef) w)
    (k : ∀ K' : Act → World → Prop, Shut (∀ (S' : World → Prop) a w, (∀ w, S' w → S w) → S' w → wpAnyH P md ops Q S' fuel (listed.setIfInBounds j true) a w → K' a w) → if Region.wanted oj (yielded ops a.tmps) = true then Oper.wp P oj a w K' Q else K' (a.put oj.dst undef) w) :
    wpAnyH P md ops Q S (fuel + 1) listed a w :=
  wpAnyH_ready hr (by simp) (AllReadyH.cons hoi (fun K hK => h K (fun _ a w hSS hS hW => hK.out a w (hSS _ hS) (fun _ => held_mono hSS _ _ _ _ hW)))
    (AllReadyH.cons hoj (fun K hK => k K (fun _ a w hSS hS hW => hK.out a w (hSS _ hS) (fun _ => held_mono hSS _ _ _ _ hW))) AllReadyH.nil))
end
end Go.Proofs.Ytlcepokenaiggaa

/-! Ln5 -/
namespace Go.Proofs.Ytlcepokenaiggaa
open Go.RowKit

theorem info_caret : (Try.prog.info? 83).map (fun i => (i.zero, i.size, i.bytes)) = some (some (.agg #[.string ⟨#[]⟩, .bool false]), 2, 24) := by kernel_rfl
theorem newsC (w : World) (cs : Array Value) (e : TypeId) : ∀ (j : Nat) (u : Value), cs.toList[j]? = some u → (w.alloc (.cells cs e)).cell? ((⟨w.heap.size, 0, none⟩ : Addr).add j) = some u := by
  intro j u hj
  have hb : (w.alloc (.cells cs e)).heap[w.heap.size]? = some (.cells cs e (0, 0)) := by show (w.heap.push _)[w.heap.size]? = _; simp
  rw [addr_add]
  simp only [World.cell?, hb]
  simpa using hj
def flatC : List (ByteArray × Bool) → List Value
  | [] => []
  | x :: l => .string x.1 :: .bool x.2 :: flatC l
theorem flatC_length (l : List (ByteArray × Bool)) : (flatC l).length = l.length * 2 := by
  induction l with
  | nil => rfl
  | cons x l ih => simp [flatC, ih]; omega
theorem flatC_append (l m : List (ByteArray × Bool)) : flatC (l ++ m) = flatC l ++ flatC m := by
  induction l with
  | nil => rfl
  | cons x l ih => simp [flatC, ih]
theorem flatC_get (l : List (ByteArray × Bool)) : ∀ k, k < l.length → (flatC l)[k * 2]? = some (.string (l.getD k (⟨#[]⟩, false)).1) ∧ (flatC l)[k * 2 + 1]? = some (.bool (l.getD k (⟨#[]⟩, false)).2) := by
  induction l with
  | nil => intro k hk; simp at hk
  | cons x l ih =>
    intro k hk
    match k with
    | 0 => exact ⟨rfl, rfl⟩
    | k + 1 =>
      have := ih k (by simpa using hk)
      rw [show (k + 1) * 2 = k * 2 + 2 by omega]
      exact this
theorem flatC_one (l : List (ByteArray × Bool)) : ∀ u ∈ flatC l, u.oneCell' = true := by
  induction l with
  | nil => intro u hu; simp [flatC] at hu
  | cons x l ih =>
    intro u hu
    simp only [flatC, List.mem_cons] at hu
    rcases hu with rfl | rfl | hu
    · rfl
    · rfl
    · exact ih u hu
/-- v is a slice of carets that the call has made. -/
def OwnC (base : Nat) (w : World) (v : Value) (xs : List (ByteArray × Bool)) : Prop := w.ownsRow base 83 2 v xs.length (flatC xs)
theorem OwnC.keep {base : Nat} {w w' : World} {v : Value} {xs : List (ByteArray × Bool)} (h : OwnC base w v xs) (hb : Below w.heap.size w w') : OwnC base w' v xs := ownsRow_keep h hb
theorem OwnC.mono {base base' : Nat} {w : World} {v : Value} {xs : List (ByteArray × Bool)} (h : OwnC base w v xs) (hb : base' ≤ base) : OwnC base' w v xs := ownsRow_mono h hb
theorem OwnC.nil (base : Nat) (w : World) : OwnC base w (.slice none 0 0) [] := World.ownsRow_nil _ _ _ _
/-- Carets that can be read from a place in a block on. -/
def AtC (w : World) (g o : Nat) (xs : List (ByteArray × Bool)) : Prop :=
  ∀ k, k < xs.length → w.cell? ⟨g, o + k * 2, none⟩ = some (.string (xs.getD k (⟨#[]⟩, false)).1) ∧ w.cell? ⟨g, o + k * 2 + 1, none⟩ = some (.bool (xs.getD k (⟨#[]⟩, false)).2)
theorem OwnC.cells {base : Nat} {w : World} {v : Value} {xs : List (ByteArray × Bool)} (h : OwnC base w v xs) :
    (v = .slice none 0 0 ∧ xs = []) ∨ ∃ g cap : Nat, v = .slice (some ⟨g, 0, none⟩) xs.length cap ∧ base ≤ g ∧ g < w.heap.size ∧ xs.length ≤ cap ∧ cap ≤ maxLen ∧ AtC w g 0 xs := by
  have h0 := h
  obtain ⟨h1, h2⟩ := h
  rcases h2 with ⟨hv, hn⟩ | ⟨g, cap, cur, hv, hg, hh, r1, r2, r3⟩
  · exact .inl ⟨hv, List.length_eq_zero_iff.1 hn⟩
  · subst hv
    refine .inr ⟨g, cap, rfl, hg, lt_of_block hh, r1, r2, fun k hk => ?_⟩
    have e1 := World.ownsRow.cellAt h0 (k * 2) (by omega)
    have e2 := World.ownsRow.cellAt h0 (k * 2 + 1) (by omega)
    have := flatC_get xs k hk
    rw [Nat.zero_add, e1, e2]
    exact this
theorem AtC.keep {w w' : World} {g o : Nat} {xs : List (ByteArray × Bool)} (h : AtC w g o xs) (hb : Below w.heap.size w w') (hg : g < w.heap.size) : AtC w' g o xs := fun k hk => ⟨(hb.cell (p := ⟨g, _, none⟩) hg).trans (h k hk).1, (hb.cell (p := ⟨g, _, none⟩) hg).trans (h k hk).2⟩
theorem AtC.tail {w : World} {g o : Nat} {xs : List (ByteArray × Bool)} (h : AtC w g o xs) (i : Nat) : AtC w g (o + i * 2) (xs.drop i) := fun k hk => by
  rw [List.length_drop] at hk
  have e : (xs.drop i).getD k (⟨#[]⟩, false) = xs.getD (i + k) (⟨#[]⟩, false) := by simp
  have := h (i + k) (by omega)
  rw [e, show o + i * 2 + k * 2 = o + (i + k) * 2 by omega]
  exact this
def GivesC (xs : List (ByteArray × Bool)) (w : World) (e : Ending) (w' : World) : Prop :=
  ∃ v, OwnC w.heap.size w' v xs ∧ Below w.heap.size w w' ∧ e = .returned v

/-- A slice value of m elements from which the cells ys can be read. -/
def SrcW (w : World) (u : Value) (m : Nat) (ys : List Value) : Prop :=
  (u = .slice none 0 0 ∧ m = 0 ∧ ys = []) ∨ ∃ ad c, u = .slice (some ad) m c ∧ ∀ j x, ys[j]? = some x → w.cell? (ad.add j) = some x
theorem wpList_appSrcW {P : Program} {w : World} {ops : Array Oper} {rest : List Oper} {o : Oper} {a : Act} {Q : Exit → Act → World → Prop} (hgd : o.guard = none) (s x : Operand) (t : TypeId)
    (ho : o.op = .call { callee := .builtin .append, args := #[s, x], argTypes := #[t, t] })
    (base : Nat) (e : TypeId) (i : TypeInfo) (z : Value) (size bytes : Nat) (ht : P.underlying t = some (.slice e)) (hi : P.info? e = some i) (hz : i.zero = some z)
    (hsize : i.size = size) (hby : i.bytes = bytes) (hzs : z.cells.size = size) (hsz : 0 < size)
    (v : Value) (n : Nat) (xs : List Value) (hs : a.eval s = v) (hown : w.ownsRow base e size v n xs)
    (u : Value) (m : Nat) (ys : List Value) (hx : a.eval x = u) (hsrc : SrcW w u m ys) (hl : ys.length = m * size) (h1 : ∀ y ∈ ys, y.oneCell' = true)
    (h63 : n + m ≤ maxLen) (hbytes : (n + m) * bytes ≤ 140737488355328) (hbase : base ≤ w.heap.size)
    (h : ∀ v' w', w'.ownsRow base e size v' (n + m) (xs ++ ys) → Below base w w' → wpList P ops Q rest (a.put o.dst v') w') : wpList P ops Q (o :: rest) a w := by
  rcases hsrc with ⟨rfl, rfl, rfl⟩ | ⟨ad, c, rfl, hc⟩
  · refine wpList_append_own_none hgd s x t ho base e i size ht hi v n xs hs hown hx ?_
    exact h v w (by simpa using hown) (Below.refl _ _)
  · refine wpList_append_own w hgd s x t ho base e i z size bytes ht hi hz hsize hby hzs hsz v n xs hs hown ad m c ys hx hl hc h1 h63 hbytes hbase ?_
    intro v' w' hown' hg hn
    exact h v' w' hown' ((Below.refl base w).grown hg hbase (fun k hk => ownsRow_ge hown k hk))
theorem OwnC.src {base : Nat} {w : World} {v : Value} {xs : List (ByteArray × Bool)} (h : OwnC base w v xs) : SrcW w v xs.length (flatC xs) := by
  have h0 := h
  obtain ⟨h1, h2⟩ := h
  rcases h2 with ⟨hv, hn⟩ | ⟨g, cap, cur, hv, hg, hh, r1, r2, r3⟩
  · have : xs = [] := List.length_eq_zero_iff.1 hn
    subst this
    exact .inl ⟨hv, rfl, rfl⟩
  · subst hv
    refine .inr ⟨_, cap, rfl, fun j x hj => ?_⟩
    have hj' : j < (flatC xs).length := (List.getElem?_eq_some_iff.1 hj).1
    rw [flatC_length] at hj'
    rw [addr_add, World.ownsRow.cellAt h0 j hj', hj]
theorem OwnC.snoc {base : Nat} {w : World} {v : Value} {xs : List (ByteArray × Bool)} {a : ByteArray} {b : Bool} (h : w.ownsRow base 83 2 v (xs.length + 1) (flatC xs ++ [.string a, .bool b])) : OwnC base w v (xs ++ [(a, b)]) := by
  unfold OwnC
  rw [List.length_append, flatC_append]
  exact h
theorem OwnC.app {base : Nat} {w : World} {v : Value} {xs ys : List (ByteArray × Bool)} (h : w.ownsRow base 83 2 v (xs.length + ys.length) (flatC xs ++ flatC ys)) : OwnC base w v (xs ++ ys) := by
  unfold OwnC
  rw [List.length_append, flatC_append]
  exact h

set_option maxRecDepth 100000 in
theorem isOnLeft_any (a : ByteArray) (b : Bool) (w : World) : Calls Try.prog 56 #[.agg #[.string a, .bool b]] w (Gives (.bool (!hasB a 49)) w) := by
  have hC := fun w => has49_any a w
  generalize hasB a 49 = z at *
  go_enter Try.func56, Try.ntmps56
  go_wp2_with fail
  have hb0 : Below w.heap.size w (w.alloc (.cells #[.string a, .bool b] 83 (0, 0))) := nxAlloc (Below.refl _ _) _
  have hx0 := heap_alloc_at w (.cells #[.string a, .bool b] 83 (0, 0))
  generalize (w.alloc (.cells #[.string a, .bool b] 83 (0, 0))) = w0 at *
  obtain ⟨hx0a, hx0b, hx0c⟩ := two_facts hx0
  go_wp2_with fail
  refine (hC _).mono ?_; rintro e w1 ⟨rfl, rfl⟩
  go_wp2_with fail
  go_ret
  exact ⟨rfl, hb0⟩
set_option maxRecDepth 100000 in
theorem isOnNeither_any (a : ByteArray) (b : Bool) (w : World) : Calls Try.prog 57 #[.agg #[.string a, .bool b]] w (Gives (.bool (hasB a 48 && hasB a 49)) w) := by
  have hC := fun w => has48_any a w
  have hL := fun w => isOnLeft_any a b w
  generalize hasB a 49 = y at *
  generalize hasB a 48 = x at *
  cases x with
  | false =>
    clear hL
    go_enter Try.func57, Try.ntmps57
    go_wp2_with fail
    have hb0 : Below w.heap.size w (w.alloc (.cells #[.string a, .bool b] 83 (0, 0))) := nxAlloc (Below.refl _ _) _
    have hx0 := heap_alloc_at w (.cells #[.string a, .bool b] 83 (0, 0))
    generalize (w.alloc (.cells #[.string a, .bool b] 83 (0, 0))) = w0 at *
    obtain ⟨hx0a, hx0b, hx0c⟩ := two_facts hx0
    go_wp2_with fail
    refine (hC _).mono ?_; rintro e w1 ⟨rfl, rfl⟩
    go_wp2_with fail
    go_ret
    exact ⟨rfl, hb0⟩
  | true =>
    go_enter Try.func57, Try.ntmps57
    go_wp2_with fail
    have hb0 : Below w.heap.size w (w.alloc (.cells #[.string a, .bool b] 83 (0, 0))) := nxAlloc (Below.refl _ _) _
    have hx0 := heap_alloc_at w (.cells #[.string a, .bool b] 83 (0, 0))
    generalize (w.alloc (.cells #[.string a, .bool b] 83 (0, 0))) = w0 at *
    obtain ⟨hx0a, hx0b, hx0c⟩ := two_facts hx0
    go_wp2_with fail
    refine (hC _).mono ?_; rintro e w1 ⟨rfl, rfl⟩
    go_wp2_with fail
    refine (hL _).mono ?_; rintro e w2 ⟨rfl, hb2⟩
    go_wp2_with fail
    go_ret
    exact ⟨by cases y <;> rfl, nx hb0 hb2⟩

set_option maxRecDepth 100000 in
set_option maxHeartbeats 4000000 in
theorem caretsFrom_any (t : Tr) : ∀ (b : Nat) (here : ByteArray) (w : World), NodeAt w t b → t.carets ≤ 60 → here.size + t.carets ≤ 1000 →
    Calls Try.prog 38 #[.pointer (some ⟨b, 0, none⟩), .string here] w (GivesC (t.cars here) w) := by
  obtain ⟨i0, hi, hz0, hz1, hz2⟩ := info_parts info_caret
  induction t with
  | lf =>
    intro b here w h ht hh
    have H := Lib.hid h
    clear h
    go_enter Try.func38, Try.ntmps38
    go_wp2_with fail
    refine (isLeaf_any .lf b _ H.out).mono ?_; rintro e w1 ⟨rfl, rfl⟩
    simp only [Tr.isLf]
    go_wp2_with fail
    go_ret
    exact ⟨_, OwnC.nil _ _, Below.refl _ _, rfl⟩
  | nd l r ihl ihr =>
    intro b here w h ht hh
    have ht' : l.carets + r.carets + 1 ≤ 60 := ht
    have hh' : here.size + (l.carets + r.carets + 1) ≤ 1000 := hh
    have ll := cars_length l (here ++ ⟨#[48]⟩)
    have lr := cars_length r (here ++ ⟨#[49]⟩)
    obtain ⟨A, hA⟩ : ∃ A, A = l.cars (here ++ ⟨#[48]⟩) := ⟨_, rfl⟩
    obtain ⟨B, hB⟩ : ∃ B, B = r.cars (here ++ ⟨#[49]⟩) := ⟨_, rfl⟩
    have hC : (Tr.nd l r).cars here = (A ++ [(here, r.isLf)]) ++ B := by rw [hA, hB]; simp [Tr.cars]
    have s0 : (here ++ (⟨#[48]⟩ : ByteArray)).size = here.size + 1 := ByteArray.size_append
    have s1 : (here ++ (⟨#[49]⟩ : ByteArray)).size = here.size + 1 := ByteArray.size_append
    have jl := fun b w h => ihl b (here ++ ⟨#[48]⟩) w h (by omega) (by omega)
    have jr := fun b w h => ihr b (here ++ ⟨#[49]⟩) w h (by omega) (by omega)
    have jf := fun b w h => isLeaf_any r b w h
    rw [← hA] at ll jl
    rw [← hB] at lr jr
    rw [hC]
    have hAn : A.length ≤ 60 := by omega
    have hBn : B.length ≤ 60 := by omega
    have H := Lib.hid h
    obtain ⟨bl, br, h, hl, hr⟩ := h
    have h1 := two_left h
    have h2 := two_right h
    have hz3 : (9223372036854775807 < here.size + 1) = False := eq_false (by omega)
    have hz4 : ¬ (9223372036854775807 < here.size + 1) := by omega
    clear h ihl ihr hA hB hC s0 s1 ll lr
    go_enter Try.func38, Try.ntmps38
    go_wp2_with fail
    refine (isLeaf_any (.nd l r) b _ H.out).mono ?_; rintro e w1 ⟨rfl, rfl⟩
    simp only [Tr.isLf]
    go_wp2_with fail
    have hz := Below.refl w.heap.size w
    generalize r.isLf = q at *
    refine wp_region_held_drew (S := (fun (w' : World) => w'.cell? ⟨b, 0, none⟩ = some (.pointer (some ⟨bl, 0, none⟩)) ∧ w'.cell? ⟨b, 1, none⟩ = some (.pointer (some ⟨br, 0, none⟩)))) (by kernel_rfl) ⟨h1, h2⟩ (fun hH0 => ?_)
    refine wpAnyH_take (i := 0) (oi := ?oi201) (v := ?vv201) ?hi201 ?hn201 ?hf201 ?hr201 ?hq201 (Or.inl ⟨?hg201, ?hy201⟩) hH0 ?rest201
    case hi201 => (simp only [List.getElem?_toArray, List.getElem?_cons_zero]; rfl)
    case hn201 => kernel_rfl
    case hf201 => kernel_rfl
    case hr201 => kernel_rfl
    case hg201 => rfl
    case hy201 => (intro w hSw; (try dsimp only at hSw); go_simp; first | done | with_reducible rfl)
    case hq201 => exact fun _ _ _ h => h
    try dsimp only [Act.put]
    refine wpAnyH_take (i := 1) (oi := ?oi202) (v := ?vv202) ?hi202 ?hn202 ?hf202 ?hr202 ?hq202 (Or.inl ⟨?hg202, ?hy202⟩) hH0 ?rest202
    case hi202 => (simp only [List.getElem?_toArray, List.getElem?_cons_succ, List.getElem?_cons_zero]; rfl)
    case hn202 => kernel_rfl
    case hf202 => kernel_rfl
    case hr202 => kernel_rfl
    case hg202 => rfl
    case hy202 => (intro w hSw; (try dsimp only at hSw); go_simp; first | done | with_reducible rfl)
    case hq202 => exact fun _ _ _ h => h
    try dsimp only [Act.put]
    refine wpAnyH_take (i := 2) (oi := ?oi203) (v := ?vv203) ?hi203 ?hn203 ?hf203 ?hr203 ?hq203 (Or.inl ⟨?hg203, ?hy203⟩) hH0 ?rest203
    case hi203 => (simp only [List.getElem?_toArray, List.getElem?_cons_succ, List.getElem?_cons_zero]; rfl)
    case hn203 => kernel_rfl
    case hf203 => kernel_rfl
    case hr203 => kernel_rfl
    case hg203 => rfl
    case hy203 => (intro w hSw; (try dsimp only at hSw); go_simp; first | done | with_reducible rfl)
    case hq203 => exact fun _ _ _ h => h
    try dsimp only [Act.put]
    refine wpAnyH_take (i := 3) (oi := ?oi204) (v := ?vv204) ?hi204 ?hn204 ?hf204 ?hr204 ?hq204 (Or.inl ⟨?hg204, ?hy204⟩) hH0 ?rest204
    case hi204 => (simp only [List.getElem?_toArray, List.getElem?_cons_succ, List.getElem?_cons_zero]; rfl)
    case hn204 => kernel_rfl
    case hf204 => kernel_rfl
    case hr204 => kernel_rfl
    case hg204 => rfl
    case hy204 => (intro w hSw; (try dsimp only at hSw); go_simp; first | done | with_reducible rfl)
    case hq204 => exact fun _ _ _ h => h
    try dsimp only [Act.put]
    refine wpAnyH_take (i := 4) (oi := ?oi205) (v := ?vv205) ?hi205 ?hn205 ?hf205 ?hr205 ?hq205 (Or.inl ⟨?hg205, ?hy205⟩) hH0 ?rest205
    case hi205 => (simp only [List.getElem?_toArray, List.getElem?_cons_succ, List.getElem?_cons_zero]; rfl)
    case hn205 => kernel_rfl
    case hf205 => kernel_rfl
    case hr205 => kernel_rfl
    case hg205 => rfl
    case hy205 => (intro w hSw; (try dsimp only at hSw); go_simp; first | done | with_reducible rfl)
    case hq205 => exact fun _ _ _ h => h
    try dsimp only [Act.put]
    refine wpAnyH_take (i := 5) (oi := ?oi206) (v := ?vv206) ?hi206 ?hn206 ?hf206 ?hr206 ?hq206 (Or.inl ⟨?hg206, ?hy206⟩) hH0 ?rest206
    case hi206 => (simp only [List.getElem?_toArray, List.getElem?_cons_succ, List.getElem?_cons_zero]; rfl)
    case hn206 => kernel_rfl
    case hf206 => kernel_rfl
    case hr206 => kernel_rfl
    case hg206 => rfl
    case hy206 => (intro w hSw; (try dsimp only at hSw); go_simp; first | done | with_reducible rfl)
    case hq206 => exact fun _ _ _ h => h
    try dsimp only [Act.put]
    refine wpAnyH_take (i := 7) (oi := ?oi207) (v := ?vv207) ?hi207 ?hn207 ?hf207 ?hr207 ?hq207 (Or.inl ⟨?hg207, ?hy207⟩) hH0 ?rest207
    case hi207 => (simp only [List.getElem?_toArray, List.getElem?_cons_succ, List.getElem?_cons_zero]; rfl)
    case hn207 => kernel_rfl
    case hf207 => kernel_rfl
    case hr207 => kernel_rfl
    case hg207 => rfl
    case hy207 => (intro w hSw; (try dsimp only at hSw); go_simp; first | done | with_reducible rfl)
    case hq207 => exact fun _ _ _ h => h
    try dsimp only [Act.put]
    refine wpAnyH_take (i := 8) (oi := ?oi208) (v := ?vv208) ?hi208 ?hn208 ?hf208 ?hr208 ?hq208 (Or.inl ⟨?hg208, ?hy208⟩) hH0 ?rest208
    case hi208 => (simp only [List.getElem?_toArray, List.getElem?_cons_succ, List.getElem?_cons_zero]; rfl)
    case hn208 => kernel_rfl
    case hf208 => kernel_rfl
    case hr208 => kernel_rfl
    case hg208 => rfl
    case hy208 => (intro w hSw; (try dsimp only at hSw); go_simp; first | done | with_reducible rfl)
    case hq208 => exact fun _ _ _ h => h
    try dsimp only [Act.put]
    refine wpAnyH_take (i := 9) (oi := ?oi209) (v := ?vv209) ?hi209 ?hn209 ?hf209 ?hr209 ?hq209 (Or.inl ⟨?hg209, ?hy209⟩) hH0 ?rest209
    case hi209 => (simp only [List.getElem?_toArray, List.getElem?_cons_succ, List.getElem?_cons_zero]; rfl)
    case hn209 => kernel_rfl
    case hf209 => kernel_rfl
    case hr209 => kernel_rfl
    case hg209 => rfl
    case hy209 => (intro w hSw; (try dsimp only at hSw); go_simp; first | done | with_reducible rfl)
    case hq209 => exact fun _ _ _ h => h
    try dsimp only [Act.put]
    refine wpAnyH_take (i := 10) (oi := ?oi210) (v := ?vv210) ?hi210 ?hn210 ?hf210 ?hr210 ?hq210 (Or.inl ⟨?hg210, ?hy210⟩) hH0 ?rest210
    case hi210 => (simp only [List.getElem?_toArray, List.getElem?_cons_succ, List.getElem?_cons_zero]; rfl)
    case hn210 => kernel_rfl
    case hf210 => kernel_rfl
    case hr210 => kernel_rfl
    case hg210 => rfl
    case hy210 => (intro w hSw; (try dsimp only at hSw); go_simp; first | done | with_reducible rfl)
    case hq210 => exact fun _ _ _ h => h
    try dsimp only [Act.put]
    refine wpAnyH_take (i := 11) (oi := ?oi211) (v := ?vv211) ?hi211 ?hn211 ?hf211 ?hr211 ?hq211 (Or.inl ⟨?hg211, ?hy211⟩) hH0 ?rest211
    case hi211 => (simp only [List.getElem?_toArray, List.getElem?_cons_succ, List.getElem?_cons_zero]; rfl)
    case hn211 => kernel_rfl
    case hf211 => kernel_rfl
    case hr211 => kernel_rfl
    case hg211 => rfl
    case hy211 => (intro w hSw; (try dsimp only at hSw); go_simp; first | done | with_reducible rfl)
    case hq211 => exact fun _ _ _ h => h
    try dsimp only [Act.put]
    refine held_one 6 rfl (by kernel_rfl) (fun K hK => ?_)
    go_simp
    refine (jl bl _ (hl.keep hz.drew)).mono ?_; rintro e w3 ⟨v3, own3, hb3, rfl⟩
    have hb3' := nx hz.drew hb3
    go_wp2_with fail
    have hH1 : (fun (w' : World) => w'.cell? ⟨b, 0, none⟩ = some (.pointer (some ⟨bl, 0, none⟩)) ∧ w'.cell? ⟨b, 1, none⟩ = some (.pointer (some ⟨br, 0, none⟩))) _ := ⟨keep_cell hb3' h1, keep_cell hb3' h2⟩
    refine hK.out (fun (w' : World) => w'.cell? ⟨b, 0, none⟩ = some (.pointer (some ⟨bl, 0, none⟩)) ∧ w'.cell? ⟨b, 1, none⟩ = some (.pointer (some ⟨br, 0, none⟩))) _ _ (fun _ h => h) hH1 ?_
    clear hK K
    try dsimp only [Act.put]
    refine held_one 12 rfl (by kernel_rfl) (fun K hK => ?_)
    go_simp
    refine (jf br _ (hr.keep hb3')).mono ?_; rintro e w4 ⟨rfl, rfl⟩
    go_wp2_with fail
    have hH2 : (fun (w' : World) => w'.cell? ⟨b, 0, none⟩ = some (.pointer (some ⟨bl, 0, none⟩)) ∧ w'.cell? ⟨b, 1, none⟩ = some (.pointer (some ⟨br, 0, none⟩))) _ := ⟨keep_cell hb3' h1, keep_cell hb3' h2⟩
    refine hK.out (fun (w' : World) => w'.cell? ⟨b, 0, none⟩ = some (.pointer (some ⟨bl, 0, none⟩)) ∧ w'.cell? ⟨b, 1, none⟩ = some (.pointer (some ⟨br, 0, none⟩))) _ _ (fun _ h => h) hH2 ?_
    clear hK K
    try dsimp only [Act.put]
    refine wpAnyH_take (i := 13) (oi := ?oi212) (v := ?vv212) ?hi212 ?hn212 ?hf212 ?hr212 ?hq212 (Or.inl ⟨?hg212, ?hy212⟩) hH2 ?rest212
    case hi212 => (simp only [List.getElem?_toArray, List.getElem?_cons_succ, List.getElem?_cons_zero]; rfl)
    case hn212 => kernel_rfl
    case hf212 => kernel_rfl
    case hr212 => kernel_rfl
    case hg212 => rfl
    case hy212 => (intro w hSw; (try dsimp only at hSw); go_simp; first | done | with_reducible rfl)
    case hq212 => exact fun _ _ _ h => h
    try dsimp only [Act.put]
    have hbn := nxAlloc hb3' (.cells #[.string here, .bool q] 83 (0, 0))
    have hsn := hb3'.size
    refine held_one 14 rfl (by kernel_rfl) (fun K hK => ?_)
    go_simp
    refine hK.out (fun (w' : World) => w'.cell? ⟨b, 0, none⟩ = some (.pointer (some ⟨bl, 0, none⟩)) ∧ w'.cell? ⟨b, 1, none⟩ = some (.pointer (some ⟨br, 0, none⟩))) _ _ (fun _ h => h) ⟨keep_cell hbn h1, keep_cell hbn h2⟩ ?_
    clear hK K
    try dsimp only [Act.put]
    refine held_one 15 rfl (by kernel_rfl) (fun K hK => ?_)
    refine step_append_lies _ rfl _ _ 60 rfl w.heap.size 83 i0 (.agg #[.string ⟨#[]⟩, .bool false]) 2 24 Try.underlying60 hi hz0 hz1 hz2 rfl (by decide) _ _ _ rfl ((own3.mono (by simp)).alloc _) ⟨w3.heap.size, 0, none⟩ 1 1 [.string here, .bool q] rfl rfl (newsC _ #[.string here, .bool q] _) (flatC_one [(here, q)]) (by decide) (by unfold maxLen; omega) (by omega) (by simp; omega) _ rfl ?_
    intro g9 cap9 w9 hown9 hgrow hnb hlt9
    have hbw9 := hbn.grown hgrow (by simp; omega) (fun k hk => by have := ownsRow_ge own3 k hk; simp at this; omega)
    have hown1 := OwnC.snoc hown9
    refine hK.out (fun (w' : World) => w'.cell? ⟨b, 0, none⟩ = some (.pointer (some ⟨bl, 0, none⟩)) ∧ w'.cell? ⟨b, 1, none⟩ = some (.pointer (some ⟨br, 0, none⟩))) _ _ (fun _ h => h) ⟨keep_cell hbw9 h1, keep_cell hbw9 h2⟩ ?_
    clear hK K
    try dsimp only [Act.put]
    refine wpAnyH_take (i := 16) (oi := ?oi701) (v := ?vv701) ?hi701 ?hn701 ?hf701 ?hr701 ?hq701 (Or.inl ⟨?hg701, ?hy701⟩) (show (fun (w' : World) => w'.cell? ⟨b, 0, none⟩ = some (.pointer (some ⟨bl, 0, none⟩)) ∧ w'.cell? ⟨b, 1, none⟩ = some (.pointer (some ⟨br, 0, none⟩))) w9 from ⟨keep_cell hbw9 h1, keep_cell hbw9 h2⟩) ?rest701
    case hi701 => (simp only [List.getElem?_toArray, List.getElem?_cons_succ, List.getElem?_cons_zero]; rfl)
    case hn701 => kernel_rfl
    case hf701 => kernel_rfl
    case hr701 => kernel_rfl
    case hg701 => rfl
    case hy701 => (intro w hSw; (try dsimp only at hSw); go_simp; first | done | with_reducible rfl)
    case hq701 => exact fun _ _ _ h => h
    try dsimp only [Act.put]
    refine wpAnyH_done (by kernel_rfl) ?_ _
    simp only [List.setIfInBounds_toArray]
    have c1 := keep_cell hbw9 h1
    have c2 := keep_cell hbw9 h2
    have hr9 := hr.keep hbw9
    have hs9 := hbw9.size
    have hAl : (A ++ [(here, q)]).length = A.length + 1 := by simp
    clear hown9 hgrow hbn hsn hb3 hb3' own3 hz h1 h2 hl hr jl jf hH0
    go_wp2_with fail
    refine (jr br _ hr9).mono ?_; rintro e w5 ⟨v5, own5, hb5, rfl⟩
    have hbw5 := nx hbw9 hb5
    have own95 := hown1.keep hb5
    have hs5 := hbw5.size
    unfold OwnC at own95
    rw [hAl] at own95
    clear hown1 hbw9 hb5 c1 c2 hr9 hs9
    go_wp2_with (at_builtin; refine wpList_appSrcW rfl _ _ 60 rfl w.heap.size 83 i0 (.agg #[.string ⟨#[]⟩, .bool false]) 2 24 Try.underlying60 hi hz0 hz1 hz2 rfl (by decide) _ _ _ rfl own95 _ _ _ rfl own5.src (flatC_length B) (flatC_one B) (by unfold maxLen; omega) (by omega) hs5 ?_; intro v8 w8 hown8 hb8)
    have hbw8 := hbw5.trans hb8
    rw [← hAl] at hown8
    have own8 := OwnC.app hown8
    clear own95 own5 hown8
    go_wp2_with fail
    go_ret
    exact ⟨_, own8, hbw8, rfl⟩
end Go.Proofs.Ytlcepokenaiggaa

/-! Ln6 -/
namespace Go.Proofs.Ytlcepokenaiggaa
open Go.RowKit

def neC (x : ByteArray × Bool) : Bool := hasB x.1 48 && hasB x.1 49
theorem neC_code (x : ByteArray × Bool) : isNe (codeK x) = neC x := by
  unfold codeK neC
  cases hasB x.1 49 <;> cases hasB x.1 48 <;> simp [isNe_LL, isNe_R, inK_ne]
theorem getD_map {l : List (ByteArray × Bool)} {k : Nat} (h : k < l.length) : (l.map codeK).getD k ⟨#[]⟩ = codeK (l.getD k (⟨#[]⟩, false)) := by simp [h]
theorem any_drop {l : List (ByteArray × Bool)} {k : Nat} (h : k < l.length) : (l.drop k).any neC = (neC (l.getD k (⟨#[]⟩, false)) || (l.drop (k + 1)).any neC) := by
  rw [List.drop_eq_getElem_cons h, List.any_cons]
  simp [h]
set_option maxRecDepth 100000 in
set_option maxHeartbeats 2000000 in
theorem indexNe_any (g o cap : Nat) (xs : List (ByteArray × Bool)) (w : World) (hx : AtC w g o xs) (hg : g < w.heap.size) (hn : xs.length ≤ 1000) (hc : xs.length ≤ cap)
    (hcall : ∀ (args : Array Value) (w : World), (callFunc 57 args).run Try.prog w = .ok (.enter 57 args) w) :
    Calls Try.prog 88 #[.slice (some ⟨g, o, none⟩) xs.length cap, .func (Fn.func 57) #[] #[]] w fun e w' => ∃ z : Int, e = .returned (.int .i64 z) ∧ decide (0 ≤ z) = xs.any neC ∧ Below w.heap.size w w' := by
  have HX := Lib.hid hx
  obtain ⟨n, hn0⟩ : ∃ n, n = xs.length := ⟨_, rfl⟩
  rw [← hn0] at hn hc ⊢
  have HN := Lib.hid hn0
  clear hx hn0
  go_enter Try.func88, Try.ntmps88
  go_wp2_with fail
  go_loopw [8] (fun i wr => ∃ k : Nat, k ≤ n ∧ i = .int .i64 k ∧ Hid (xs.any neC = (xs.drop k).any neC) ∧ Below w.heap.size w wr) (fun i _ => n - (intOf i).toNat)
  case atStart => exact ⟨0, Nat.zero_le _, rfl, Lib.hid rfl, Below.refl _ _⟩
  case round =>
    obtain ⟨k, hk, rfl, ha, hbw⟩ := hrel
    by_cases hlt : k < n
    · have hlt' : (k : Int) < (n : Int) := by omega
      have hkx : k < xs.length := by have := HN.out; omega
      obtain ⟨c1, c2⟩ := (HX.out.keep hbw hg) k hkx
      have hd := ha.out
      rw [any_drop hkx] at hd
      generalize xs.getD k (⟨#[]⟩, false) = x at *
      obtain ⟨a, b⟩ := x
      dsimp only at c1 c2
      have hNE := fun w => isOnNeither_any a b w
      change xs.any neC = ((hasB a 48 && hasB a 49) || _) at hd
      generalize (hasB a 48 && hasB a 49) = q at *
      have HD := Lib.hid hd
      clear hd ha hkx
      go_wp2_with fail
      refine (hNE _).mono ?_; rintro e w1 ⟨rfl, hb1⟩
      have hbw1 := nx hbw hb1
      clear hbw hb1 c1 c2
      cases q with
      | true =>
        go_wp2_with fail
        go_ret
        exact ⟨_, rfl, by rw [HD.out]; simp, hbw1⟩
      | false =>
        have HD2 : Hid (xs.any neC = (xs.drop (k + 1)).any neC) := Lib.hid (by have := HD.out; simpa using this)
        clear HD
        go_wp2_with fail
        go_roundw
        case rel => exact ⟨k + 1, by omega, by go_num, HD2, hbw1⟩
        case measure => simp [intOf]; omega
    · obtain rfl : k = n := by omega
      have hd := ha.out
      rw [List.drop_of_length_le (by have := HN.out; omega)] at hd
      have HD := Lib.hid hd
      clear hd ha
      go_wp2_with fail
      go_ret
      exact ⟨_, rfl, by rw [HD.out]; rfl, hbw⟩
set_option maxRecDepth 100000 in
theorem containsNe_any (g o cap : Nat) (xs : List (ByteArray × Bool)) (w : World) (hx : AtC w g o xs) (hg : g < w.heap.size) (hn : xs.length ≤ 1000) (hc : xs.length ≤ cap)
    (hcall : ∀ (args : Array Value) (w : World), (callFunc 57 args).run Try.prog w = .ok (.enter 57 args) w) :
    Calls Try.prog 75 #[.slice (some ⟨g, o, none⟩) xs.length cap, .func (Fn.func 57) #[] #[]] w (Gives (.bool (xs.any neC)) w) := by
  have hI := indexNe_any g o cap xs w hx hg hn hc hcall
  generalize xs.any neC = q at *
  generalize xs.length = n at *
  clear hx
  have HI := Lib.hid hI
  clear hI
  go_enter Try.func75, Try.ntmps75
  go_wp2_with fail
  refine HI.out.mono ?_; rintro e w1 ⟨z, rfl, hz, hb1⟩
  go_wp2_with fail
  go_ret
  exact ⟨by rw [← hz]; rfl, hb1⟩
set_option maxRecDepth 100000 in
set_option maxHeartbeats 1000000 in
theorem kindOnRight_any (g o cap : Nat) (xs : List (ByteArray × Bool)) (w : World) (hx : AtC w g o xs) (hg : g < w.heap.size) (hn : xs.length ≤ 1000) (hc : xs.length ≤ cap)
    (hcall : ∀ (args : Array Value) (w : World), (callFunc 57 args).run Try.prog w = .ok (.enter 57 args) w) :
    Calls Try.prog 58 #[.slice (some ⟨g, o, none⟩) xs.length cap] w (Gives (.string (korK (xs.map codeK))) w) := by
  have hC := fun w hx hg => containsNe_any g o cap xs w hx hg hn hc hcall
  have HX := Lib.hid hx
  have ha : (xs.map codeK).any isNe = xs.any neC := by
    clear hx HX hC hn hc
    induction xs with
    | nil => rfl
    | cons x l ih => simp only [List.map_cons, List.any_cons, ih, neC_code]
  unfold korK
  rw [ha]
  cases hq : xs.any neC with
  | false =>
    rw [hq] at hC
    have hC' := Lib.hid (hC w hx hg)
    clear hC hx ha hq
    show Calls _ _ _ _ (Gives (.string sR0) w)
    go_enter Try.func58, Try.ntmps58
    go_wp2_with fail
    refine hC'.out.mono ?_; rintro e w1 ⟨rfl, hb1⟩
    go_wp2_with fail
    go_ret
    exact ⟨rfl, hb1⟩
  | true =>
    rw [hq] at hC
    have hpos : 0 < xs.length := by
      cases xs with
      | nil => simp at hq
      | cons x l => simp
    have hp' : (0 : Int) < (xs.length : Int) := by omega
    have hhd : isNe ((xs.map codeK).headD ⟨#[]⟩) = neC (xs.getD 0 (⟨#[]⟩, false)) := by
      cases xs with
      | nil => simp at hq
      | cons x l => exact neC_code x
    rw [hhd, if_neg (by simp)]
    have hX0 := hx 0 hpos
    have hC' := Lib.hid (hC w hx hg)
    clear hC hx ha hq hhd HX
    obtain ⟨c1, c2⟩ := hX0
    rw [Nat.zero_mul, Nat.add_zero] at c1
    rw [Nat.zero_mul, Nat.add_zero] at c2
    generalize xs.getD 0 (⟨#[]⟩, false) = x at *
    obtain ⟨a, b⟩ := x
    dsimp only at c1 c2
    have hNE := fun w => isOnNeither_any a b w
    show Calls _ _ _ _ (Gives (.string (if (hasB a 48 && hasB a 49) = true then sRI else sRN)) w)
    generalize (hasB a 48 && hasB a 49) = q at *
    generalize xs.length = n at *
    cases q with
    | true =>
      show Calls _ _ _ _ (Gives (.string sRI) w)
      go_enter Try.func58, Try.ntmps58
      go_wp2_with fail
      refine hC'.out.mono ?_; rintro e w1 ⟨rfl, hb1⟩
      replace c1 := keep_cell hb1 c1
      replace c2 := keep_cell hb1 c2
      go_wp2_with fail
      refine (hNE _).mono ?_; rintro e w2 ⟨rfl, hb2⟩
      go_wp2_with fail
      go_ret
      exact ⟨rfl, nx hb1 hb2⟩
    | false =>
      show Calls _ _ _ _ (Gives (.string sRN) w)
      go_enter Try.func58, Try.ntmps58
      go_wp2_with fail
      refine hC'.out.mono ?_; rintro e w1 ⟨rfl, hb1⟩
      replace c1 := keep_cell hb1 c1
      replace c2 := keep_cell hb1 c2
      go_wp2_with fail
      refine (hNE _).mono ?_; rintro e w2 ⟨rfl, hb2⟩
      go_wp2_with fail
      go_ret
      exact ⟨rfl, nx hb1 hb2⟩

set_option maxRecDepth 100000 in
set_option maxHeartbeats 2000000 in
theorem kindAt_any (g cap i : Nat) (xs : List (ByteArray × Bool)) (w : World) (hx : AtC w g 0 xs) (hg : g < w.heap.size) (hn : xs.length ≤ 1000) (hc : xs.length ≤ cap) (hm : cap ≤ maxLen) (hi : i < xs.length)
    (hcall : ∀ (args : Array Value) (w : World), (callFunc 57 args).run Try.prog w = .ok (.enter 57 args) w) :
    Calls Try.prog 39 #[.slice (some ⟨g, 0, none⟩) xs.length cap, .int .i64 i] w (Gives (.string (kindK i (codeK (xs.getD i (⟨#[]⟩, false))) ((xs.drop (i + 1)).map codeK))) w) := by
  have hX0 := hx i hi
  unfold maxLen at hm
  have hi' : (i : Int) < (xs.length : Int) := by omega
  have hi0 : 0 ≤ (i : Int) := by omega
  rw [Nat.zero_add] at hX0
  obtain ⟨c1, c2⟩ := hX0
  have hT := AtC.tail hx (i + 1)
  have hTl : (xs.drop (i + 1)).length = xs.length - (i + 1) := List.length_drop
  obtain ⟨ys, hys⟩ : ∃ ys, ys = xs.drop (i + 1) := ⟨_, rfl⟩
  rw [← hys] at hT hTl ⊢
  generalize xs.getD i (⟨#[]⟩, false) = x at *
  obtain ⟨a, b⟩ := x
  dsimp only at c1 c2
  have hL := fun w => isOnLeft_any a b w
  have hN := fun w => isOnNeither_any a b w
  have hyn : ys.length ≤ 1000 := by omega
  have hR := fun w o c hx hg hc => kindOnRight_any g o c ys w hx hg hyn hc hcall
  rw [hTl] at hR
  have hwi : IntKind.i64.wrap ((i : Int) + 1) = (i : Int) + 1 := by rw [IntKind.wrap_i64]; omega
  have hi1 : 0 ≤ (i : Int) + 1 := by omega
  have hin : (i : Int) + 1 ≤ (xs.length : Int) := by omega
  have hic : (i : Int) + 1 ≤ (cap : Int) := by omega
  have htz : ((i : Int) + 1).toNat = i + 1 := by omega
  have hnc : (xs.length : Int) ≤ (cap : Int) := by omega
  generalize hnn : xs.length = n at *
  have HYL := Lib.hid hTl
  have HT := Lib.hid hT
  have HR := Lib.hid hR
  clear hx hys hT hR hyn hnn hTl
  have hb1 := (Below.refl w.heap.size w).alloc (Nat.le_refl _) (.cells #[.string a, .bool b] 83 (0, 0))
  have hx1 := heap_alloc_at w (.cells #[.string a, .bool b] 83 (0, 0))
  obtain ⟨k1, k2, k3⟩ := two_facts hx1
  have hgw := Nat.lt_of_lt_of_le hg hb1.size
  by_cases h0 : i = 0
  · subst h0
    show Calls _ _ _ _ (Gives (.string sL0) w)
    clear HYL hwi hi1 hin hic htz hnc hL hN HT HR k1 k2 k3 hx1 hgw
    go_enter Try.func39, Try.ntmps39
    go_wp2_with fail
    go_ret
    exact ⟨rfl, hb1⟩
  · have hne : ((i : Int) == 0) = false := by rw [beq_eq_false_iff_ne]; omega
    rw [show kindK i (codeK (a, b)) (ys.map codeK) = if hasB a 49 = false then sLL else if hasB a 48 = false then korK (ys.map codeK) else inK b by
      unfold kindK codeK
      rw [if_neg h0]
      dsimp only
      cases hasB a 49 <;> cases hasB a 48 <;> cases b <;> rfl]
    generalize korK (ys.map codeK) = K at *
    generalize hasB a 49 = p at *
    generalize hasB a 48 = q at *
    have E := Lib.hid h0
    clear h0
    cases p with
    | false =>
      show Calls _ _ _ _ (Gives (.string sLL) w)
      clear hwi hi1 hin hic htz hnc hN HT HR hgw
      go_enter Try.func39, Try.ntmps39
      go_wp2_with fail
      refine (hL _).mono ?_; rintro e w1 ⟨rfl, hb2⟩
      go_wp2_with fail
      go_ret
      exact ⟨rfl, nx hb1 hb2⟩
    | true =>
      cases q with
      | false =>
        show Calls _ _ _ _ (Gives (.string K) w)
        go_enter Try.func39, Try.ntmps39
        go_wp2_with fail
        refine (hL _).mono ?_; rintro e w1 ⟨rfl, hb2⟩
        replace k1 := keep_cell hb2 k1
        replace k2 := keep_cell hb2 k2
        go_wp2_with fail
        refine (hN _).mono ?_; rintro e w2 ⟨rfl, hb3⟩
        have hbw := nx (nx hb1 hb2) hb3
        have ht3 := HT.out.keep hbw hg
        have hg3 := Nat.lt_of_lt_of_le hg hbw.size
        have HR3 := fun o c hx hc => HR.out _ o c hx hg3 hc
        have HR4 := Lib.hid HR3
        have HT3 := Lib.hid ht3
        clear HR3 ht3 HR HT hL hN k1 k2 k3 hx1 c1 c2 hb1 hb2 hb3 hgw hg hg3
        by_cases hcc : cap = i + 1
        · subst hcc
          have hnn : n = i + 1 := by omega
          subst hnn
          have hq : ∀ c, Calls Try.prog 58 #[.slice (some ⟨g, 0, none⟩) 0 c] w2 (Gives (.string K) w2) := fun c => by
            have h1 := HR4.out 0 c (fun k hk => by have := HYL.out; omega) (by omega)
            rw [Nat.sub_self] at h1
            exact h1
          clear hin hic hnc hc
          go_wp2_with fail
          refine (hq _).mono ?_; rintro e w4 ⟨rfl, hb4⟩
          go_wp2_with fail
          go_ret
          exact ⟨rfl, nx hbw hb4⟩
        · have hcc' : ¬ ((cap : Int) = (i : Int) + 1) := by omega
          go_wp2_with fail
          refine (HR4.out ((i + 1) * 2) (cap - (i + 1)) (by have := HT3.out; rw [Nat.zero_add] at this; exact this) (by omega)).mono ?_; rintro e w4 ⟨rfl, hb4⟩
          go_wp2_with fail
          go_ret
          exact ⟨rfl, nx hbw hb4⟩
      | true =>
        have hfin : ∀ b : Bool, Hid (b = b) := fun _ => Lib.hid rfl
        cases b with
        | true =>
          show Calls _ _ _ _ (Gives (.string sI0) w)
          clear hwi hi1 hin hic htz hnc HT HR hgw hfin
          go_enter Try.func39, Try.ntmps39
          go_wp2_with fail
          refine (hL _).mono ?_; rintro e w1 ⟨rfl, hb2⟩
          replace k1 := keep_cell hb2 k1
          replace k2 := keep_cell hb2 k2
          go_wp2_with fail
          refine (hN _).mono ?_; rintro e w2 ⟨rfl, hb3⟩
          replace k1 := keep_cell hb3 k1
          replace k2 := keep_cell hb3 k2
          go_wp2_with fail
          go_ret
          exact ⟨rfl, nx (nx hb1 hb2) hb3⟩
        | false =>
          show Calls _ _ _ _ (Gives (.string sIR) w)
          clear hwi hi1 hin hic htz hnc HT HR hgw hfin
          go_enter Try.func39, Try.ntmps39
          go_wp2_with fail
          refine (hL _).mono ?_; rintro e w1 ⟨rfl, hb2⟩
          replace k1 := keep_cell hb2 k1
          replace k2 := keep_cell hb2 k2
          go_wp2_with fail
          refine (hN _).mono ?_; rintro e w2 ⟨rfl, hb3⟩
          replace k1 := keep_cell hb3 k1
          replace k2 := keep_cell hb3 k2
          go_wp2_with fail
          go_ret
          exact ⟨rfl, nx (nx hb1 hb2) hb3⟩

theorem kindsFrom_snoc (l : List ByteArray) : ∀ (i k : Nat), k < l.length → (kindsFrom i l).take (k + 1) = (kindsFrom i l).take k ++ [kindK (i + k) (l.getD k ⟨#[]⟩) (l.drop (k + 1))] := by
  induction l with
  | nil => intro i k h; simp at h
  | cons x r ih =>
    intro i k h
    match k with
    | 0 => rfl
    | k + 1 =>
      have := ih (i + 1) k (by simpa using h)
      rw [kindsFrom, List.take_succ_cons, List.take_succ_cons, this, show i + 1 + k = i + (k + 1) by omega]
      rfl
theorem kindsFrom_length (l : List ByteArray) : ∀ i, (kindsFrom i l).length = l.length := by
  induction l with
  | nil => intro i; rfl
  | cons x r ih => intro i; simp [kindsFrom, ih]
set_option maxRecDepth 100000 in
set_option maxHeartbeats 2000000 in
theorem kindsOf_any (t : Tr) (w : World) (ht : t.carets ≤ 60) :
    Calls Try.prog 20 #[.string t.str] w (GivesS t.kinds w) := by
  obtain ⟨i0, hi, hz0, hz1, hz2⟩ := info_parts info_str
  have hT := fun w => treeOf_any t w (by omega)
  have hC := fun b w h => caretsFrom_any t b ⟨#[]⟩ w h ht (by show 0 + t.carets ≤ 1000; omega)
  have hl := cars_length t ⟨#[]⟩
  have hk := kinds_from t
  rw [← cars_raw] at hk
  have hcall : ∀ (args : Array Value) (w : World), (callFunc 57 args).run Try.prog w = .ok (.enter 57 args) w := fun _ _ => by kernel_rfl
  generalize t.cars ⟨#[]⟩ = xs at *
  have hn : xs.length ≤ 60 := by omega
  have HK := Lib.hid hk
  clear hk hl
  go_enter Try.func20, Try.ntmps20
  go_wp2_with fail
  refine (hT _).mono ?_; rintro e w1 ⟨b1, hn1, hb1, rfl⟩
  go_wp2_with fail
  refine (hC b1 _ hn1).mono ?_; rintro e w2 ⟨v2, own2, hb2, rfl⟩
  have hbw2 := nx hb1 hb2
  clear hT hC hn1 hb1 hb2
  rcases own2.cells with ⟨rfl, rfl⟩ | ⟨g, cap, rfl, _, hg, hc1, hc2, hat⟩
  · clear own2
    go_wp2_with fail
    go_loopw [4, 11] (fun v i wr => v = .slice none 0 0 ∧ i = .int .i64 0 ∧ wr = w2) (fun _ _ _ => 0)
    case atStart => exact ⟨rfl, rfl, rfl⟩
    case round =>
      obtain ⟨rfl, rfl, rfl⟩ := hrel
      go_wp2_with fail
      go_ret
      exact ⟨_, by rw [HK.out]; exact OwnS.nil _ _, hbw2, rfl⟩
  · have HA := Lib.hid hat
    clear own2 hat
    have HKA := fun w hx hg i hi => kindAt_any g cap i xs w hx hg (by omega) hc1 hc2 hi hcall
    obtain ⟨n, hnn⟩ : ∃ n, n = xs.length := ⟨_, rfl⟩
    rw [← hnn] at HKA hn hc1 ⊢
    have HN := Lib.hid hnn
    clear hnn
    go_wp2_with fail
    go_loopw [4, 11] (fun v i wr => ∃ k : Nat, k ≤ n ∧ i = .int .i64 k ∧ OwnS w2.heap.size wr v ((kindsFrom 0 (xs.map codeK)).take k) ∧ Below w2.heap.size w2 wr) (fun _ i _ => n - (intOf i).toNat)
    case atStart => exact ⟨0, Nat.zero_le _, rfl, OwnS.nil _ _, Below.refl _ _⟩
    case round =>
      obtain ⟨k, hk, rfl, hown, hbw⟩ := hrel
      by_cases hlt : k < n
      · have hlt' : (k : Int) < (n : Int) := by omega
        have hkx : k < xs.length := by have := HN.out; omega
        have hnext := kindsFrom_snoc (xs.map codeK) 0 k (by simpa using hkx)
        rw [Nat.zero_add, getD_map hkx, ← List.map_drop] at hnext
        have hlen : ((kindsFrom 0 (xs.map codeK)).take k).length = k := by rw [List.length_take, kindsFrom_length, List.length_map]; omega
        have hKA := HKA wr (HA.out.keep hbw hg) (Nat.lt_of_lt_of_le hg hbw.size) k hlt
        generalize kindK k (codeK (xs.getD k (⟨#[]⟩, false))) ((xs.drop (k + 1)).map codeK) = K at *
        generalize (kindsFrom 0 (xs.map codeK)).take k = ts at *
        have HNX := Lib.hid hnext
        have HH := Lib.hid hKA
        clear hnext hKA hkx
        go_wp2_with fail
        refine HH.out.mono ?_; rintro e w3 ⟨rfl, hb3⟩
        have hbw3 := nx hbw hb3
        have own3 := hown.keep hb3
        have hs3 := hbw3.size
        clear hown hbw hb3
        go_wp2_with (at_builtin; refine wpList_append_own _ rfl _ _ 22 rfl w2.heap.size 9 i0 (.string ⟨#[]⟩) 1 16 Try.underlying22 hi hz0 hz1 hz2 rfl (by decide) _ _ _ rfl (own3.alloc _) ⟨w3.heap.size, 0, none⟩ 1 1 [.string K] rfl rfl (new1 _ _ _) (one_str1 _) (by unfold maxLen; omega) (by omega) (by simp; omega) ?_; intro v' w9 hown' hgrow hnn)
        have hbw9 := (nxAlloc hbw3 (.cells #[.string K] 9 (0, 0))).grown hgrow (by simp; omega) (fun k hk => ownsRow_ge own3 k hk)
        have own9 := OwnS.snoc1 hown'
        clear own3 hown' hgrow hnn hbw3
        go_wp2_with fail
        go_roundw
        case rel => exact ⟨k + 1, by omega, by go_num, by rw [HNX.out]; exact own9, hbw9⟩
        case measure => simp [intOf]; omega
      · obtain rfl : k = n := by omega
        rw [List.take_of_length_le (by rw [kindsFrom_length, List.length_map]; have := HN.out; omega)] at hown
        go_wp2_with fail
        go_ret
        exact ⟨_, by rw [HK.out]; exact hown.mono hbw2.size, nx hbw2 hbw, rfl⟩
end Go.Proofs.Ytlcepokenaiggaa

/-! WCaretKinds -/
namespace Go.Proofs.Ytlcepokenaiggaa
open Go.RowKit

def CaretKinds_o (a : ByteArray) : Option (List ByteArray) :=
  match treeOf a with
  | some t => some t.kinds
  | none => none
theorem CaretKinds_len (a : ByteArray) : ((CaretKinds_o a).getD []).length ≤ 1000000000 := by
  unfold CaretKinds_o
  cases h : treeOf a with
  | none => simp
  | some t =>
    have := kinds_length t
    have := (treeOf_some h).2
    simp; omega

set_option maxRecDepth 100000 in
theorem specCaretKinds_any (a : ByteArray) (w : World) (ha : a.size ≤ 9223372036854775806) :
    Calls Try.prog 6 #[.string a] w (AnsSs (CaretKinds_o a) w) := by
  cases h : treeOf a with
  | none =>
    rw [show CaretKinds_o a = none by simp [CaretKinds_o, h]]
    have H := Lib.hid h
    clear h
    go_enter Try.func6, Try.ntmps6
    go_wp2_with fail
    refine (trIs_no a _ ha H.out).mono ?_; rintro e w1 ⟨rfl, rfl⟩
    go_wp2_with fail
    go_ret2
    exact ⟨_, OwnS.nil _ _, Below.refl _ _, rfl⟩
  | some t =>
    obtain ⟨rfl, hc⟩ := treeOf_some h
    rw [show CaretKinds_o t.str = some t.kinds by simp [CaretKinds_o, h]]
    have hA := fun w => lnKinds_any t w (by omega)
    clear h
    go_enter Try.func6, Try.ntmps6
    go_wp2_with fail
    refine (trIs_yes t _ hc).mono ?_; rintro e w1 ⟨rfl, rfl⟩
    go_wp2_with fail
    refine (hA _).mono ?_; rintro e w2 ⟨v2, own, hb2, rfl⟩
    go_wp2_with fail
    go_ret2
    exact ⟨_, own, hb2, rfl⟩

set_option maxRecDepth 100000 in
theorem implCaretKinds_any (a : ByteArray) (w : World) (ha : a.size ≤ 9223372036854775806) :
    Calls Try.prog 7 #[.string a] w (AnsSs (CaretKinds_o a) w) := by
  cases h : treeOf a with
  | none =>
    rw [show CaretKinds_o a = none by simp [CaretKinds_o, h]]
    have H := Lib.hid h
    clear h
    go_enter Try.func7, Try.ntmps7
    go_wp2_with fail
    refine (isTree_no' a _ ha H.out).mono ?_; rintro e w1 ⟨rfl, hb1⟩
    go_wp2_with fail
    go_ret2
    exact ⟨_, OwnS.nil _ _, hb1, rfl⟩
  | some t =>
    obtain ⟨rfl, hc⟩ := treeOf_some h
    rw [show CaretKinds_o t.str = some t.kinds by simp [CaretKinds_o, h]]
    have hA := fun w => kindsOf_any t w (by omega)
    clear h
    go_enter Try.func7, Try.ntmps7
    go_wp2_with fail
    refine (isTree_yes' t _ hc).mono ?_; rintro e w1 ⟨rfl, hb1⟩
    go_wp2_with fail
    refine (hA _).mono ?_; rintro e w2 ⟨v2, own, hb2, rfl⟩
    go_wp2_with fail
    go_ret2
    exact ⟨_, own.mono hb1.size, nx hb1 hb2, rfl⟩

set_option maxRecDepth 100000 in
set_option maxHeartbeats 1000000 in
theorem fnExactCaretKinds_walk (a : ByteArray) (ha : a.size ≤ maxLen) (w : World) :
    Calls Try.prog 3 #[.string a] w fun e w' => e = .returned (.bool true) ∧ Below w.heap.size w w' := by
  unfold maxLen at ha
  by_cases hbiga : (1048576 : Int) < a.size
  · go_enter Try.func3, Try.ntmps3
    go_wp2_with fail
    go_ret
    exact ⟨rfl, Below.refl _ _⟩
  have hS := fun w => specCaretKinds_any a w (by omega)
  have hI := fun w => implCaretKinds_any a w (by omega)
  have hn9 := CaretKinds_len a
  obtain ⟨o, ho⟩ : ∃ o, o = CaretKinds_o a := ⟨_, rfl⟩
  rw [← ho] at hn9
  simp only [← ho] at hS hI
  clear ho
  obtain ⟨xs, ok, hx, hk⟩ : ∃ xs ok, xs = o.getD [] ∧ ok = o.isSome := ⟨_, _, rfl, rfl⟩
  have hS' : ∀ w, Calls Try.prog 6 #[.string a] w (AnsS2 xs ok w) := by rw [hx, hk]; exact hS
  have hI' : ∀ w, Calls Try.prog 7 #[.string a] w (AnsS2 xs ok w) := by rw [hx, hk]; exact hI
  rw [← hx] at hn9
  clear hS hI hx hk
  go_enter Try.func3, Try.ntmps3
  go_wp2_with fail
  refine (hS' _).mono ?_; rintro e w1 ⟨v0, own0, hb1, rfl⟩
  go_wp2_with fail
  refine (hI' _).mono ?_; rintro e w2 ⟨v1, own1, hb2, rfl⟩
  go_wp2_with fail
  refine (eqStringS_any _ _ v1 v0 xs _ own1.cells (own0.keep hb2).cells).mono ?_; rintro e w3 ⟨rfl, n3, hw3⟩
  have hb3 : Below w2.heap.size w2 w3 := by rw [hw3]; exact drewB (Below.refl _ _) n3
  clear hw3
  go_wp2_with fail
  refine (markStringS_1 w1.heap.size v1 xs _ hn9 (hb2.trans (hb3.mono hb2.size)).size (own1.keep hb3)).mono ?_; rintro e w4 ⟨rfl, own4, hb4⟩
  have hb14 : Below w1.heap.size w1 w4 := (hb2.trans (hb3.mono hb2.size)).trans hb4
  have own04 := own0.keep hb14
  go_wp2_with fail
  refine (heldStringS_1 w1.heap.size v1 xs.length _ hn9 own4.cells).mono ?_; rintro e w5 ⟨rfl, hb5⟩
  go_wp2_with fail
  refine (hI' _).mono ?_; rintro e w6 ⟨v2, own6, hb6, rfl⟩
  have hb46 : Below w4.heap.size w4 w6 := nx hb5 hb6
  go_wp2_with fail
  refine (eqStringS_any _ _ v2 v0 xs _ own6.cells (own04.keep hb46).cells).mono ?_; rintro e w7 ⟨rfl, n7, hw7⟩
  have hb7 : Below w6.heap.size w6 w7 := by rw [hw7]; exact drewB (Below.refl _ _) n7
  clear hw7
  go_wp2_with fail
  refine (heldStringS_1 w1.heap.size v1 xs.length _ hn9 (own4.keep (nx hb46 hb7)).cells).mono ?_; rintro e w8 ⟨rfl, hb8⟩
  go_wp2_with fail
  go_ret
  exact ⟨rfl, nx (nx (nx (nx hb1 hb14) hb46) hb7) hb8⟩
end Go.Proofs.Ytlcepokenaiggaa

/-! LFnExactCaretKinds -/
namespace Go.Proofs.Ytlcepokenaiggaa.fnExactCaretKinds
open Go.ChangeShapes Go.WideShapes Go.ChangeAt Go.RowKit
open Go.ChangeMaps (open_string shut_string)
set_option linter.unusedVariables false

theorem own : ownKnob Try.prog.godebug = none := by kernel_rfl
theorem laidOut : laidOutB Try.prog = true := by kernel_rfl

set_option maxRecDepth 100000 in
theorem lifted (os : Os) (started : os.Started) (H : Type) (enc : TypeId × Value → H) :
    ReturnsInHanded {} Try.checked os 3 .any (Rows.fnExactCaretKindsSpec.pre6 enc Try.prog Try.f3 Rows.fnExactCaretKindsRow.domain false) (Rows.fnExactCaretKindsSpec.post enc Try.prog Try.f3 false true false false) := by
  refine returnsInHanded_of_change (C := Try.checked) own started (by kernel_rfl) Try.func3
    (ChangeSpec.witness6 (enc := enc) (C := Try.checked) false ⟨#[], #[.string ByteArray.empty], []⟩ 8 (by kernel_rfl) (by kernel_rfl) (by kernel_rfl) (by kernel_rfl)) ?_
  intro W base args ds gs before hval0 hW hcnd _
  have hval : ∀ (j : Nat) t v, Try.f3.params[j]? = some t → args[j]? = some v → Value.okWide Try.prog W .any base t v := hval0
  have hW' := hW
  obtain ⟨p, q, hA0, hV, rfl, hfz, hnd⟩ := hW
  have hA : DataW.TrodAll enc Try.prog W 0 (fun _ => true) true Try.f3.params.toList args.toList ds p := hA0
  rw [Try.params3] at hA hval
  obtain ⟨v0, vs0, d0, ds0, p0, q0, hargs, rfl, rfl, h0, r0⟩ := trodAll_cons hA
  obtain ⟨rfl, rfl, rfl⟩ := trodAll_nil r0
  obtain rfl : args = #[v0] := by cases args; simp_all
  obtain ⟨rfl, rfl⟩ := trodVars_none hV
  obtain ⟨a0, rfl, rfl, rfl, w0⟩ := open_string Try.underlying9 (hval 0 9 v0 rfl rfl) h0
  clear hA0 hval0
  simp only [List.append_nil] at hW'
  refine (fnExactCaretKinds_walk a0 w0 W).mono fun e W' ⟨he, bel⟩ => ?_
  subst he
  exact ⟨_, rfl, _, _, _, [], _, [], hW', trodAll_mk1 (shut_bool Try.underlying4 _), (trodAll_cons_mk (shut_string Try.underlying9 w0) trodAll_mk0), rfl, bel.frame _, fun h => by cases h⟩

theorem over : Rows.fnExactCaretKindsRow.holds Try.pinned (OpenSpec.ofChange Rows.fnExactCaretKindsSpec) :=
  OpenClaim.holds_of_wide 3 Try.f3 rfl rfl rfl rfl rfl rfl rfl ⟨rfl, rfl, rfl, rfl, rfl⟩ rfl rfl rfl rfl rfl (by kernel_rfl) Try.func3 (by kernel_rfl)
    (of_decide_eq_true (by kernel_rfl)) (by unfold Func.isWrapper; first | (rw [if_pos (by decide +kernel)]; kernel_rfl) | (rw [if_neg (by decide +kernel)]; exact ⟨rfl, rfl⟩))
    (fun os started H enc _ => lifted os started H enc)

theorem proved : Rows.FnExactCaretKindsSaid := over
#print axioms proved
end Go.Proofs.Ytlcepokenaiggaa.fnExactCaretKinds
