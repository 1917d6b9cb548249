/- Walks: choices; spec.ReduceBy. -/
import Derived.Test.YtbeailflcinilaaRedBy2
namespace Go.Proofs.Ytbeailflcinilaa
open Go.RowKit

/-- Are these choices? -/
def choB (cs : List Int) : Bool := decide (cs.length ≤ 20) && cs.all fun c => decide (0 ≤ c)
theorem choB_all {cs : List Int} (h : choB cs = true) : cs.length ≤ 20 ∧ ∀ c ∈ cs, 0 ≤ c := by
  unfold choB at h
  simp only [Bool.and_eq_true, decide_eq_true_eq, List.all_eq_true] at h
  exact h
theorem all_drop {cs : List Int} {k : Nat} (h : k < cs.length) : (cs.drop k).all (fun c => decide (0 ≤ c)) = (decide (0 ≤ cs.getD k 0) && (cs.drop (k + 1)).all fun c => decide (0 ≤ c)) := by
  rw [List.drop_eq_getElem_cons h, List.all_cons]
  simp [h]

set_option maxRecDepth 100000 in
set_option maxHeartbeats 1000000 in
theorem prChoices_any (v : Value) (cs : List Int) (b1 : Nat) (w : World) (hv : CellsI b1 w v cs) :
    Calls Try.prog 59 #[v] w fun e w' => e = .returned (.bool (choB cs)) ∧ w = w' := by
  obtain ⟨oa, cap, rfl, h1, h2, hc⟩ := hv.form
  unfold maxLen at h2
  clear hv
  by_cases hl : cs.length ≤ 20
  · have hl' : ¬ (20 : Int) < (cs.length : Int) := by omega
    have hC : Hid (choB cs = cs.all fun c => decide (0 ≤ c)) := by show _ = _; unfold choB; rw [decide_eq_true hl, Bool.true_and]
    clear hl
    go_enter Try.func59, Try.ntmps59
    go_wp2_with fail
    go_loop [10] (fun i => ∃ k : Nat, k ≤ cs.length ∧ i = .int .i64 k ∧ Hid (choB cs = (cs.drop k).all fun c => decide (0 ≤ c))) (fun i => cs.length - (intOf i).toNat)
    case atStart => exact ⟨0, Nat.zero_le _, rfl, hC⟩
    case round =>
      obtain ⟨k, hk, rfl, he⟩ := hrel
      by_cases hlt : k < cs.length
      · obtain ⟨g, rfl, _, hg, c1⟩ := hc k hlt
        have had := all_drop hlt
        have hlt' : (k : Int) < (cs.length : Int) := by omega
        generalize cs.getD k 0 = c at *
        by_cases hneg : c < 0
        · have hf : Hid (choB cs = false) := by show _ = _; rw [he.out, had, decide_eq_false (by omega), Bool.false_and]
          clear had
          go_wp2_with fail
          go_ret
          exact ⟨ret_bool (by rw [hf.out]), rfl⟩
        · have hf : Hid (choB cs = (cs.drop (k + 1)).all fun c => decide (0 ≤ c)) := by show _ = _; rw [he.out, had, decide_eq_true (by omega), Bool.true_and]
          clear had
          go_wp2_with fail
          go_round
          case rel => exact ⟨k + 1, by omega, by go_num, hf⟩
          case measure => simp [intOf]; omega
      · obtain rfl : k = cs.length := by omega
        have hf : Hid (choB cs = true) := by show _ = _; rw [he.out, List.drop_of_length_le (Nat.le_refl _)]; rfl
        go_wp2_with fail
        go_ret
        exact ⟨ret_bool (by rw [hf.out]), rfl⟩
  · have hl' : (20 : Int) < (cs.length : Int) := by omega
    have hf : Hid (choB cs = false) := by show _ = _; unfold choB; rw [decide_eq_false hl, Bool.false_and]
    clear hl hc
    go_enter Try.func59, Try.ntmps59
    go_wp2_with fail
    go_ret
    exact ⟨ret_bool (by rw [hf.out]), rfl⟩

/-- Of texts, the answer of ReduceBy. -/
def redO (a b : ByteArray) (cs : List Int) : Option Pr := (pairOf a b).bind fun p => if choB cs = true then some (redBy p cs) else none

theorem CellsI.keep {b1 : Nat} {w w' : World} {v : Value} {xs : List Int} (h : CellsI b1 w v xs) (hb : Below w.heap.size w w') : CellsI b1 w' v xs := by
  rcases h with h | ⟨g, cap, h1, h2, h3, h4, h5, h6, h7⟩
  · exact .inl h
  · exact .inr ⟨g, cap, h1, h2, Nat.lt_of_lt_of_le h3 hb.size, h4, h5, fun i hi => (hb.cell (p := ⟨g, i, none⟩) h3).trans (h6 i hi), fun i => (hb.frozen (p := ⟨g, i, none⟩) h3).trans (h7 i)⟩

set_option maxRecDepth 100000 in
set_option maxHeartbeats 2000000 in
theorem specReduceBy_any (a b : ByteArray) (v : Value) (cs : List Int) (b1 : Nat) (w : World) (ha : a.size ≤ 9223372036854775806) (hb : b.size ≤ 9223372036854775806) (hv : CellsI b1 w v cs) (h9 : ∀ c ∈ cs, -9223372036854775808 ≤ c ∧ c ≤ 9223372036854775807) :
    Calls Try.prog 31 #[.agg #[.string a, .string b], v] w (Gives (ansPr (redO a b cs)) w) := by
  have hg := fun w => prGood_any a b w ha hb
  have hK := fun w h => prChoices_any v cs b1 w h
  have HV := Lib.hid hv
  obtain ⟨oa, cap, rfl⟩ : ∃ oa cap, v = .slice oa cs.length cap := by
    obtain ⟨oa, cap, h, _⟩ := hv.form
    exact ⟨oa, cap, h⟩
  clear hv
  unfold redO
  cases h : pairOf a b with
  | none =>
    rw [h] at hg
    clear h hK HV
    show Calls _ _ _ _ (Gives (ansPr none) w)
    go_enter Try.func31, Try.ntmps31
    go_wp2_with fail
    have hb0 : Below w.heap.size w ((w.alloc (.cells #[.string a, .string b] 35 (0, 0))).alloc (.cells #[.string ⟨#[]⟩, .string ⟨#[]⟩] 35 (0, 0))) := nxAlloc (nxAlloc (Below.refl _ _) _) _
    have hx0 := heap_keep (nxAlloc (Below.refl _ _) (.cells #[.string ⟨#[]⟩, .string ⟨#[]⟩] 35 (0, 0))) (heap_alloc_at w (.cells #[.string a, .string b] 35 (0, 0)))
    have hx1 := heap_alloc_at (w.alloc (.cells #[.string a, .string b] 35 (0, 0))) (.cells #[.string ⟨#[]⟩, .string ⟨#[]⟩] 35 (0, 0))
    generalize ((w.alloc (.cells #[.string a, .string b] 35 (0, 0))).alloc (.cells #[.string ⟨#[]⟩, .string ⟨#[]⟩] 35 (0, 0))) = w0 at *
    have e1 : (w.alloc (.cells #[.string a, .string b] 35 (0, 0))).heap.size = w.heap.size + 1 := by simp
    rw [e1] at hx1
    clear e1
    obtain ⟨hx0a, hx0b, hx0c⟩ := two_facts hx0
    obtain ⟨hx0f, hx0g⟩ := two_frozen hx0
    obtain ⟨hx1a, hx1b, hx1c⟩ := two_facts hx1
    obtain ⟨hx1f, hx1g⟩ := two_frozen hx1
    refine (hg _).mono ?_; rintro e w1 ⟨rfl, hb1⟩
    have hbw1 := nx hb0 hb1
    replace hx0 := heap_keep hb1 hx0
    replace hx1 := heap_keep hb1 hx1
    clear hx0a hx0b hx0c hx0f hx0g
    obtain ⟨hx0a, hx0b, hx0c⟩ := two_facts hx0
    obtain ⟨hx0f, hx0g⟩ := two_frozen hx0
    clear hx1a hx1b hx1c hx1f hx1g
    obtain ⟨hx1a, hx1b, hx1c⟩ := two_facts hx1
    obtain ⟨hx1f, hx1g⟩ := two_frozen hx1
    clear hb1 hb0
    go_wp2_with fail
    obtain ⟨q1, q2⟩ := two_cells (set_two (.string ⟨#[]⟩) (.string ⟨#[]⟩) hx1)
    refine bodyPost_ret (v := .tuple #[.agg #[.string ⟨#[]⟩, .string ⟨#[]⟩], .bool false]) (by simp [q1, q2, results, Try.results31, go_sem]) rfl ⟨rfl, ?_⟩
    exact (hbw1.setCell (by show w.heap.size ≤ w.heap.size + 1; omega) _).setCell (by show w.heap.size ≤ w.heap.size + 1; omega) _
  | some p =>
    rw [h] at hg
    obtain ⟨rfl, rfl, hok, hc1, hc2⟩ := pairOf_some h
    clear h
    show Calls _ _ _ _ (Gives (ansPr (if choB cs = true then some (redBy p cs) else none)) w)
    cases hch : choB cs with
    | false =>
      rw [hch] at hK
      clear hch
      show Calls _ _ _ _ (Gives (ansPr none) w)
      go_enter Try.func31, Try.ntmps31
      go_wp2_with fail
      have hb0 : Below w.heap.size w ((w.alloc (.cells #[.string p.1.str, .string p.2.str] 35 (0, 0))).alloc (.cells #[.string ⟨#[]⟩, .string ⟨#[]⟩] 35 (0, 0))) := nxAlloc (nxAlloc (Below.refl _ _) _) _
      have hx0 := heap_keep (nxAlloc (Below.refl _ _) (.cells #[.string ⟨#[]⟩, .string ⟨#[]⟩] 35 (0, 0))) (heap_alloc_at w (.cells #[.string p.1.str, .string p.2.str] 35 (0, 0)))
      have hx1 := heap_alloc_at (w.alloc (.cells #[.string p.1.str, .string p.2.str] 35 (0, 0))) (.cells #[.string ⟨#[]⟩, .string ⟨#[]⟩] 35 (0, 0))
      generalize ((w.alloc (.cells #[.string p.1.str, .string p.2.str] 35 (0, 0))).alloc (.cells #[.string ⟨#[]⟩, .string ⟨#[]⟩] 35 (0, 0))) = w0 at *
      have e1 : (w.alloc (.cells #[.string p.1.str, .string p.2.str] 35 (0, 0))).heap.size = w.heap.size + 1 := by simp
      rw [e1] at hx1
      clear e1
      obtain ⟨hx0a, hx0b, hx0c⟩ := two_facts hx0
      obtain ⟨hx0f, hx0g⟩ := two_frozen hx0
      obtain ⟨hx1a, hx1b, hx1c⟩ := two_facts hx1
      obtain ⟨hx1f, hx1g⟩ := two_frozen hx1
      refine (hg _).mono ?_; rintro e w1 ⟨rfl, hb1⟩
      have hbw1 := nx hb0 hb1
      replace hx0 := heap_keep hb1 hx0
      replace hx1 := heap_keep hb1 hx1
      clear hx0a hx0b hx0c hx0f hx0g
      obtain ⟨hx0a, hx0b, hx0c⟩ := two_facts hx0
      obtain ⟨hx0f, hx0g⟩ := two_frozen hx0
      clear hx1a hx1b hx1c hx1f hx1g
      obtain ⟨hx1a, hx1b, hx1c⟩ := two_facts hx1
      obtain ⟨hx1f, hx1g⟩ := two_frozen hx1
      clear hb1 hb0
      go_wp2_with fail
      refine (hK _ (HV.out.keep hbw1)).mono ?_; rintro e wc ⟨rfl, rfl⟩
      go_wp2_with fail
      obtain ⟨q1, q2⟩ := two_cells (set_two (.string ⟨#[]⟩) (.string ⟨#[]⟩) hx1)
      refine bodyPost_ret (v := .tuple #[.agg #[.string ⟨#[]⟩, .string ⟨#[]⟩], .bool false]) (by simp [q1, q2, results, Try.results31, go_sem]) rfl ⟨rfl, ?_⟩
      exact (hbw1.setCell (by show w.heap.size ≤ w.heap.size + 1; omega) _).setCell (by show w.heap.size ≤ w.heap.size + 1; omega) _
    | true =>
      have h0 := (choB_all hch).2
      rw [hch] at hK
      clear hch
      show Calls _ _ _ _ (Gives (ansPr (some (redBy p cs))) w)
      go_enter Try.func31, Try.ntmps31
      go_wp2_with fail
      have hb0 : Below w.heap.size w ((w.alloc (.cells #[.string p.1.str, .string p.2.str] 35 (0, 0))).alloc (.cells #[.string ⟨#[]⟩, .string ⟨#[]⟩] 35 (0, 0))) := nxAlloc (nxAlloc (Below.refl _ _) _) _
      have hx0 := heap_keep (nxAlloc (Below.refl _ _) (.cells #[.string ⟨#[]⟩, .string ⟨#[]⟩] 35 (0, 0))) (heap_alloc_at w (.cells #[.string p.1.str, .string p.2.str] 35 (0, 0)))
      have hx1 := heap_alloc_at (w.alloc (.cells #[.string p.1.str, .string p.2.str] 35 (0, 0))) (.cells #[.string ⟨#[]⟩, .string ⟨#[]⟩] 35 (0, 0))
      generalize ((w.alloc (.cells #[.string p.1.str, .string p.2.str] 35 (0, 0))).alloc (.cells #[.string ⟨#[]⟩, .string ⟨#[]⟩] 35 (0, 0))) = w0 at *
      have e1 : (w.alloc (.cells #[.string p.1.str, .string p.2.str] 35 (0, 0))).heap.size = w.heap.size + 1 := by simp
      rw [e1] at hx1
      clear e1
      obtain ⟨hx0a, hx0b, hx0c⟩ := two_facts hx0
      obtain ⟨hx0f, hx0g⟩ := two_frozen hx0
      obtain ⟨hx1a, hx1b, hx1c⟩ := two_facts hx1
      obtain ⟨hx1f, hx1g⟩ := two_frozen hx1
      refine (hg _).mono ?_; rintro e w1 ⟨rfl, hb1⟩
      have hbw1 := nx hb0 hb1
      replace hx0 := heap_keep hb1 hx0
      replace hx1 := heap_keep hb1 hx1
      clear hx0a hx0b hx0c hx0f hx0g
      obtain ⟨hx0a, hx0b, hx0c⟩ := two_facts hx0
      obtain ⟨hx0f, hx0g⟩ := two_frozen hx0
      clear hx1a hx1b hx1c hx1f hx1g
      obtain ⟨hx1a, hx1b, hx1c⟩ := two_facts hx1
      obtain ⟨hx1f, hx1g⟩ := two_frozen hx1
      clear hb1 hb0
      go_wp2_with fail
      refine (hK _ (HV.out.keep hbw1)).mono ?_; rintro e wc ⟨rfl, rfl⟩
      go_wp2_with fail
      refine (prReduce_any p _ cs b1 _ (by omega) (by omega) (HV.out.keep hbw1) (fun c hc => ⟨h0 c hc, (h9 c hc).2⟩)).mono ?_; rintro e w2 ⟨rfl, hb2⟩
      have hbw2 := nx hbw1 hb2
      replace hx0 := heap_keep hb2 hx0
      replace hx1 := heap_keep hb2 hx1
      clear hx0a hx0b hx0c hx0f hx0g
      obtain ⟨hx0a, hx0b, hx0c⟩ := two_facts hx0
      obtain ⟨hx0f, hx0g⟩ := two_frozen hx0
      clear hx1a hx1b hx1c hx1f hx1g
      obtain ⟨hx1a, hx1b, hx1c⟩ := two_facts hx1
      obtain ⟨hx1f, hx1g⟩ := two_frozen hx1
      clear hb2 hbw1
      go_wp2_with fail
      obtain ⟨q1, q2⟩ := two_cells (set_two (.string (redBy p cs).1.str) (.string (redBy p cs).2.str) hx1)
      refine bodyPost_ret (v := .tuple #[.agg #[.string (redBy p cs).1.str, .string (redBy p cs).2.str], .bool true]) (by simp [q1, q2, results, Try.results31, go_sem]) rfl ⟨rfl, ?_⟩
      exact (hbw2.setCell (by show w.heap.size ≤ w.heap.size + 1; omega) _).setCell (by show w.heap.size ≤ w.heap.size + 1; omega) _
end Go.Proofs.Ytbeailflcinilaa
