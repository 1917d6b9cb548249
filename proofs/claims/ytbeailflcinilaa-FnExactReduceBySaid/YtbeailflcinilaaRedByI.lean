/- Walk: impl.ReduceBy. -/
import Derived.Test.YtbeailflcinilaaRedByS
namespace Go.Proofs.Ytbeailflcinilaa
open Go.RowKit

set_option maxRecDepth 100000 in
set_option maxHeartbeats 4000000 in
theorem implReduceBy_any (a b : ByteArray) (v : Value) (cs : List Int) (b1 : Nat) (w : World) (ha : a.size ≤ 9223372036854775806) (hb : b.size ≤ 9223372036854775806) (hv : CellsI b1 w v cs) (h9 : ∀ c ∈ cs, -9223372036854775808 ≤ c ∧ c ≤ 9223372036854775807) :
    Calls Try.prog 33 #[.agg #[.string a, .string b], v] w (Gives (ansPr (redO a b cs)) w) := by
  have hg := fun w => isPair_any a b w ha hb
  have HV := Lib.hid hv
  obtain ⟨oa, cap, rfl, hcap1, hcap2, hcc⟩ := hv.form
  unfold maxLen at hcap2
  clear hv
  unfold redO
  cases h : pairOf a b with
  | none =>
    rw [h] at hg
    clear h HV hcc
    show Calls _ _ _ _ (Gives (ansPr none) w)
    go_enter Try.func33, Try.ntmps33
    go_wp2_with fail
    have hb0 : Below w.heap.size w (((w.alloc (.cells #[.string a, .string b] 35 (0, 0))).alloc (.cells #[.slice oa cs.length cap] 25 (0, 0))).alloc (.cells #[.string ⟨#[]⟩, .string ⟨#[]⟩] 35 (0, 0))) := nxAlloc (nxAlloc (nxAlloc (Below.refl _ _) _) _) _
    have hx0 := heap_keep (nxAlloc (Below.refl _ _) (.cells #[.string ⟨#[]⟩, .string ⟨#[]⟩] 35 (0, 0))) (heap_keep (nxAlloc (Below.refl _ _) (.cells #[.slice oa cs.length cap] 25 (0, 0))) (heap_alloc_at w (.cells #[.string a, .string b] 35 (0, 0))))
    have hx1 := heap_keep (nxAlloc (Below.refl _ _) (.cells #[.string ⟨#[]⟩, .string ⟨#[]⟩] 35 (0, 0))) (heap_alloc_at (w.alloc (.cells #[.string a, .string b] 35 (0, 0))) (.cells #[.slice oa cs.length cap] 25 (0, 0)))
    have hx2 := heap_alloc_at ((w.alloc (.cells #[.string a, .string b] 35 (0, 0))).alloc (.cells #[.slice oa cs.length cap] 25 (0, 0))) (.cells #[.string ⟨#[]⟩, .string ⟨#[]⟩] 35 (0, 0))
    generalize (((w.alloc (.cells #[.string a, .string b] 35 (0, 0))).alloc (.cells #[.slice oa cs.length cap] 25 (0, 0))).alloc (.cells #[.string ⟨#[]⟩, .string ⟨#[]⟩] 35 (0, 0))) = w0 at *
    have e1 : (w.alloc (.cells #[.string a, .string b] 35 (0, 0))).heap.size = w.heap.size + 1 := by simp
    rw [e1] at hx1
    clear e1
    have e2 : ((w.alloc (.cells #[.string a, .string b] 35 (0, 0))).alloc (.cells #[.slice oa cs.length cap] 25 (0, 0))).heap.size = w.heap.size + 1 + 1 := by simp
    rw [e2] at hx2
    clear e2
    obtain ⟨hx0a, hx0b, hx0c⟩ := two_facts hx0
    obtain ⟨hx1a, hx1f⟩ := one_cell hx1
    obtain ⟨hx2a, hx2b, hx2c⟩ := two_facts hx2
    obtain ⟨hx2f, hx2g⟩ := two_frozen hx2
    refine (hg _).mono ?_; rintro e w1 ⟨rfl, hb1⟩
    have hbw1 := nx hb0 hb1
    replace hx0 := heap_keep hb1 hx0
    replace hx1 := heap_keep hb1 hx1
    replace hx2 := heap_keep hb1 hx2
    clear hx0a hx0b hx0c hx1a hx1f hx2a hx2b hx2c hx2f hx2g
    obtain ⟨hx0a, hx0b, hx0c⟩ := two_facts hx0
    obtain ⟨hx1a, hx1f⟩ := one_cell hx1
    obtain ⟨hx2a, hx2b, hx2c⟩ := two_facts hx2
    obtain ⟨hx2f, hx2g⟩ := two_frozen hx2
    clear hb1 hb0
    go_wp2_with fail
    obtain ⟨q1, q2⟩ := two_cells (set_two (.string ⟨#[]⟩) (.string ⟨#[]⟩) hx2)
    refine bodyPost_ret (v := .tuple #[.agg #[.string ⟨#[]⟩, .string ⟨#[]⟩], .bool false]) (by simp [q1, q2, results, Try.results33, go_sem]) rfl ⟨rfl, ?_⟩
    exact (hbw1.setCell (by show w.heap.size ≤ w.heap.size + 1 + 1; omega) _).setCell (by show w.heap.size ≤ w.heap.size + 1 + 1; omega) _
  | some p =>
    rw [h] at hg
    obtain ⟨rfl, rfl, hok, hc1, hc2⟩ := pairOf_some h
    clear h
    show Calls _ _ _ _ (Gives (ansPr (if choB cs = true then some (redBy p cs) else none)) w)
    by_cases hl : cs.length ≤ 20
    rotate_left
    · have hf : choB cs = false := by unfold choB; rw [decide_eq_false hl, Bool.false_and]
      rw [hf]
      show Calls _ _ _ _ (Gives (ansPr none) w)
      have hl' : (20 : Int) < (cs.length : Int) := by omega
      clear hl hcc HV hf
      go_enter Try.func33, Try.ntmps33
      go_wp2_with fail
      have hb0 : Below w.heap.size w (((w.alloc (.cells #[.string p.1.str, .string p.2.str] 35 (0, 0))).alloc (.cells #[.slice oa cs.length cap] 25 (0, 0))).alloc (.cells #[.string ⟨#[]⟩, .string ⟨#[]⟩] 35 (0, 0))) := nxAlloc (nxAlloc (nxAlloc (Below.refl _ _) _) _) _
      have hx0 := heap_keep (nxAlloc (Below.refl _ _) (.cells #[.string ⟨#[]⟩, .string ⟨#[]⟩] 35 (0, 0))) (heap_keep (nxAlloc (Below.refl _ _) (.cells #[.slice oa cs.length cap] 25 (0, 0))) (heap_alloc_at w (.cells #[.string p.1.str, .string p.2.str] 35 (0, 0))))
      have hx1 := heap_keep (nxAlloc (Below.refl _ _) (.cells #[.string ⟨#[]⟩, .string ⟨#[]⟩] 35 (0, 0))) (heap_alloc_at (w.alloc (.cells #[.string p.1.str, .string p.2.str] 35 (0, 0))) (.cells #[.slice oa cs.length cap] 25 (0, 0)))
      have hx2 := heap_alloc_at ((w.alloc (.cells #[.string p.1.str, .string p.2.str] 35 (0, 0))).alloc (.cells #[.slice oa cs.length cap] 25 (0, 0))) (.cells #[.string ⟨#[]⟩, .string ⟨#[]⟩] 35 (0, 0))
      generalize (((w.alloc (.cells #[.string p.1.str, .string p.2.str] 35 (0, 0))).alloc (.cells #[.slice oa cs.length cap] 25 (0, 0))).alloc (.cells #[.string ⟨#[]⟩, .string ⟨#[]⟩] 35 (0, 0))) = w0 at *
      have e1 : (w.alloc (.cells #[.string p.1.str, .string p.2.str] 35 (0, 0))).heap.size = w.heap.size + 1 := by simp
      rw [e1] at hx1
      clear e1
      have e2 : ((w.alloc (.cells #[.string p.1.str, .string p.2.str] 35 (0, 0))).alloc (.cells #[.slice oa cs.length cap] 25 (0, 0))).heap.size = w.heap.size + 1 + 1 := by simp
      rw [e2] at hx2
      clear e2
      obtain ⟨hx0a, hx0b, hx0c⟩ := two_facts hx0
      obtain ⟨hx1a, hx1f⟩ := one_cell hx1
      obtain ⟨hx2a, hx2b, hx2c⟩ := two_facts hx2
      obtain ⟨hx2f, hx2g⟩ := two_frozen hx2
      refine (hg _).mono ?_; rintro e w1 ⟨rfl, hb1⟩
      have hbw1 := nx hb0 hb1
      replace hx0 := heap_keep hb1 hx0
      replace hx1 := heap_keep hb1 hx1
      replace hx2 := heap_keep hb1 hx2
      clear hx0a hx0b hx0c hx1a hx1f hx2a hx2b hx2c hx2f hx2g
      obtain ⟨hx0a, hx0b, hx0c⟩ := two_facts hx0
      obtain ⟨hx1a, hx1f⟩ := one_cell hx1
      obtain ⟨hx2a, hx2b, hx2c⟩ := two_facts hx2
      obtain ⟨hx2f, hx2g⟩ := two_frozen hx2
      clear hb1 hb0
      go_wp2_with fail
      obtain ⟨q1, q2⟩ := two_cells (set_two (.string ⟨#[]⟩) (.string ⟨#[]⟩) hx2)
      refine bodyPost_ret (v := .tuple #[.agg #[.string ⟨#[]⟩, .string ⟨#[]⟩], .bool false]) (by simp [q1, q2, results, Try.results33, go_sem]) rfl ⟨rfl, ?_⟩
      exact (hbw1.setCell (by show w.heap.size ≤ w.heap.size + 1 + 1; omega) _).setCell (by show w.heap.size ≤ w.heap.size + 1 + 1; omega) _
    have hl' : ¬ (20 : Int) < (cs.length : Int) := by omega
    have hC : choB cs = cs.all fun c => decide (0 ≤ c) := by unfold choB; rw [decide_eq_true hl, Bool.true_and]
    obtain ⟨R, hR⟩ : ∃ R, R = ansPr (if choB cs = true then some (redBy p cs) else none) := ⟨_, rfl⟩
    rw [← hR]
    have HR := Lib.hid hR
    have HC := Lib.hid hC
    clear hR hC hok
    go_enter Try.func33, Try.ntmps33
    go_wp2_with fail
    have hb0 : Below w.heap.size w (((w.alloc (.cells #[.string p.1.str, .string p.2.str] 35 (0, 0))).alloc (.cells #[.slice oa cs.length cap] 25 (0, 0))).alloc (.cells #[.string ⟨#[]⟩, .string ⟨#[]⟩] 35 (0, 0))) := nxAlloc (nxAlloc (nxAlloc (Below.refl _ _) _) _) _
    have hx0 := heap_keep (nxAlloc (Below.refl _ _) (.cells #[.string ⟨#[]⟩, .string ⟨#[]⟩] 35 (0, 0))) (heap_keep (nxAlloc (Below.refl _ _) (.cells #[.slice oa cs.length cap] 25 (0, 0))) (heap_alloc_at w (.cells #[.string p.1.str, .string p.2.str] 35 (0, 0))))
    have hx1 := heap_keep (nxAlloc (Below.refl _ _) (.cells #[.string ⟨#[]⟩, .string ⟨#[]⟩] 35 (0, 0))) (heap_alloc_at (w.alloc (.cells #[.string p.1.str, .string p.2.str] 35 (0, 0))) (.cells #[.slice oa cs.length cap] 25 (0, 0)))
    have hx2 := heap_alloc_at ((w.alloc (.cells #[.string p.1.str, .string p.2.str] 35 (0, 0))).alloc (.cells #[.slice oa cs.length cap] 25 (0, 0))) (.cells #[.string ⟨#[]⟩, .string ⟨#[]⟩] 35 (0, 0))
    generalize (((w.alloc (.cells #[.string p.1.str, .string p.2.str] 35 (0, 0))).alloc (.cells #[.slice oa cs.length cap] 25 (0, 0))).alloc (.cells #[.string ⟨#[]⟩, .string ⟨#[]⟩] 35 (0, 0))) = w0 at *
    have e1 : (w.alloc (.cells #[.string p.1.str, .string p.2.str] 35 (0, 0))).heap.size = w.heap.size + 1 := by simp
    rw [e1] at hx1
    clear e1
    have e2 : ((w.alloc (.cells #[.string p.1.str, .string p.2.str] 35 (0, 0))).alloc (.cells #[.slice oa cs.length cap] 25 (0, 0))).heap.size = w.heap.size + 1 + 1 := by simp
    rw [e2] at hx2
    clear e2
    obtain ⟨hx0a, hx0b, hx0c⟩ := two_facts hx0
    obtain ⟨hx1a, hx1f⟩ := one_cell hx1
    obtain ⟨hx2a, hx2b, hx2c⟩ := two_facts hx2
    obtain ⟨hx2f, hx2g⟩ := two_frozen hx2
    refine (hg _).mono ?_; rintro e w1 ⟨rfl, hb1⟩
    have hbw1 := nx hb0 hb1
    replace hx0 := heap_keep hb1 hx0
    replace hx1 := heap_keep hb1 hx1
    replace hx2 := heap_keep hb1 hx2
    clear hx0a hx0b hx0c hx1a hx1f hx2a hx2b hx2c hx2f hx2g
    obtain ⟨hx0a, hx0b, hx0c⟩ := two_facts hx0
    obtain ⟨hx1a, hx1f⟩ := one_cell hx1
    obtain ⟨hx2a, hx2b, hx2c⟩ := two_facts hx2
    obtain ⟨hx2f, hx2g⟩ := two_frozen hx2
    clear hb1 hb0
    go_wp2_with fail
    go_loopw [21] (fun i wr => ∃ k : Nat, k ≤ cs.length ∧ i = .int .i64 k ∧ wr = w1 ∧ Hid (choB cs = (cs.drop k).all fun c => decide (0 ≤ c))) (fun i _ => cs.length - (intOf i).toNat)
    case atStart => exact ⟨0, Nat.zero_le _, rfl, rfl, HC⟩
    case round =>
      obtain ⟨k, hk, rfl, rfl, he⟩ := hrel
      by_cases hlt : k < cs.length
      · obtain ⟨g, e1, _, hg1, c1⟩ := hcc k hlt
        have c2 := (hbw1.cell (p := ⟨g, k, none⟩) hg1).trans c1
        have had := all_drop hlt
        have hlt' : (k : Int) < (cs.length : Int) := by omega
        subst e1
        generalize cs.getD k 0 = c at *
        by_cases hneg : c < 0
        · have hf : Hid (choB cs = false) := by show _ = _; rw [he.out, had, decide_eq_false (by omega), Bool.false_and]
          have hR2 : Hid (.tuple #[.agg #[.string ⟨#[]⟩, .string ⟨#[]⟩], .bool false] = R) := by show _ = _; rw [HR.out, hf.out]; rfl
          clear had c1 hf he
          go_wp2_with fail
          obtain ⟨q1, q2⟩ := two_cells (set_two (.string ⟨#[]⟩) (.string ⟨#[]⟩) hx2)
          refine bodyPost_ret (v := .tuple #[.agg #[.string ⟨#[]⟩, .string ⟨#[]⟩], .bool false]) (by simp [q1, q2, results, Try.results33, go_sem]) rfl ⟨by rw [hR2.out], ?_⟩
          exact (hbw1.setCell (by show w.heap.size ≤ w.heap.size + 1 + 1; omega) _).setCell (by show w.heap.size ≤ w.heap.size + 1 + 1; omega) _
        · have hf : Hid (choB cs = (cs.drop (k + 1)).all fun c => decide (0 ≤ c)) := by show _ = _; rw [he.out, had, decide_eq_true (by omega), Bool.true_and]
          clear had c1
          go_wp2_with fail
          go_roundw
          case rel => exact ⟨k + 1, by omega, by go_num, trivial, hf⟩
          case measure => simp [intOf]; omega
      · obtain rfl : k = cs.length := by omega
        have hf : choB cs = true := by rw [he.out, List.drop_of_length_le (Nat.le_refl _)]; rfl
        have hall := (choB_all hf).2
        have hR2 : Hid (.tuple #[.agg #[.string (redBy p cs).1.str, .string (redBy p cs).2.str], .bool true] = R) := by show _ = _; rw [HR.out, hf]; rfl
        clear hf he
        go_wp2_with fail
        have hS := heap_alloc_at wr (.cells #[.int .i64 0] 3 (0, 0))
        have hbA : Below wr.heap.size wr (wr.alloc (.cells #[.int .i64 0] 3 (0, 0))) := nxAlloc (Below.refl _ _) _
        replace hx1 := heap_keep hbA hx1
        replace hx2 := heap_keep hbA hx2
        have hbwA := nx hbw1 hbA
        have hsA : wr.heap.size < (wr.alloc (.cells #[.int .i64 0] 3 (0, 0))).heap.size := by simp
        have hlA : w.heap.size + 1 + 1 < wr.heap.size := hx2c
        generalize wr.alloc (.cells #[.int .i64 0] 3 (0, 0)) = wA at *
        clear hx0 hx0a hx0b hx0c hx1a hx1f hx2a hx2b hx2c hx2f hx2g hbA
        have hRB := reducedBy_choice p cs w.heap.size wr.heap.size (w.heap.size + 1) oa cap wA (by omega) (by omega) hS hx1 (by omega) (by omega) hbwA.size (fun i hi => by
          obtain ⟨g, e1, _, e2, e3⟩ := hcc i hi
          exact ⟨g, e1, e2, (hbwA.cell (p := ⟨g, i, none⟩) e2).trans e3⟩) (fun c hc => ⟨hall c hc, (h9 c hc).2⟩) (by omega)
        generalize wr.heap.size = bs at *
        clear hcc
        refine hRB.mono ?_; rintro e wB ⟨rfl, hbB, hmB⟩
        have hx2B : wB.heap[w.heap.size + 1 + 1]? = some (.cells #[.string ⟨#[]⟩, .string ⟨#[]⟩] 35 (0, 0)) := (hmB _ (by omega) (by omega)).trans hx2
        obtain ⟨n1, n2⟩ := two_cells hx2B
        obtain ⟨f1, f2⟩ := two_frozen hx2B
        have hbwB := hbwA.trans hbB
        go_wp2_with fail
        obtain ⟨q1, q2⟩ := two_cells (set_two (.string (redBy p cs).1.str) (.string (redBy p cs).2.str) hx2B)
        refine bodyPost_ret (v := .tuple #[.agg #[.string (redBy p cs).1.str, .string (redBy p cs).2.str], .bool true]) (by simp [q1, q2, results, Try.results33, go_sem]) rfl ⟨by rw [hR2.out], ?_⟩
        exact (hbwB.setCell (by show w.heap.size ≤ w.heap.size + 1 + 1; omega) _).setCell (by show w.heap.size ≤ w.heap.size + 1 + 1; omega) _
end Go.Proofs.Ytbeailflcinilaa
