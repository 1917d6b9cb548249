/- Texts that the claim needs, part 5. -/
import Derived.Test.YteflpaebckichabMgReducedAreUnique3
import Derived.Lib.Bytealg
/-! RedByI -/
namespace Go.Proofs.Yteflpaebckichab
open Go.RowKit

set_option maxRecDepth 100000 in
set_option maxHeartbeats 4000000 in
theorem implReduceBy_any (a b : ByteArray) (v : Value) (cs : List Int) (b1 : Nat) (w : World) (ha : a.size ≤ 9223372036854775806) (hb : b.size ≤ 9223372036854775806) (hv : CellsI b1 w v cs) (h9 : ∀ c ∈ cs, -9223372036854775808 ≤ c ∧ c ≤ 9223372036854775807) :
    Calls Try.prog 59 #[.agg #[.string a, .string b], v] w (Gives (ansPr (redO a b cs)) w) := by
  have hg := fun w => isPair_any a b w ha hb
  have HV := Lib.hid hv
  obtain ⟨oa, cap, rfl, hcap1, hcap2, hcc⟩ := hv.form
  unfold maxLen at hcap2
  clear hv
  unfold redO
  cases h : pairOf a b with
  | none =>
    rw [h] at hg
    clear h HV hcc
    show Calls _ _ _ _ (Gives (ansPr none) w)
    go_enter Try.func59, Try.ntmps59
    go_wp2_with fail
    have hb0 : Below w.heap.size w (((w.alloc (.cells #[.string a, .string b] 59 (0, 0))).alloc (.cells #[.slice oa cs.length cap] 28 (0, 0))).alloc (.cells #[.string ⟨#[]⟩, .string ⟨#[]⟩] 59 (0, 0))) := nxAlloc (nxAlloc (nxAlloc (Below.refl _ _) _) _) _
    have hx0 := heap_keep (nxAlloc (Below.refl _ _) (.cells #[.string ⟨#[]⟩, .string ⟨#[]⟩] 59 (0, 0))) (heap_keep (nxAlloc (Below.refl _ _) (.cells #[.slice oa cs.length cap] 28 (0, 0))) (heap_alloc_at w (.cells #[.string a, .string b] 59 (0, 0))))
    have hx1 := heap_keep (nxAlloc (Below.refl _ _) (.cells #[.string ⟨#[]⟩, .string ⟨#[]⟩] 59 (0, 0))) (heap_alloc_at (w.alloc (.cells #[.string a, .string b] 59 (0, 0))) (.cells #[.slice oa cs.length cap] 28 (0, 0)))
    have hx2 := heap_alloc_at ((w.alloc (.cells #[.string a, .string b] 59 (0, 0))).alloc (.cells #[.slice oa cs.length cap] 28 (0, 0))) (.cells #[.string ⟨#[]⟩, .string ⟨#[]⟩] 59 (0, 0))
    generalize (((w.alloc (.cells #[.string a, .string b] 59 (0, 0))).alloc (.cells #[.slice oa cs.length cap] 28 (0, 0))).alloc (.cells #[.string ⟨#[]⟩, .string ⟨#[]⟩] 59 (0, 0))) = w0 at *
    have e1 : (w.alloc (.cells #[.string a, .string b] 59 (0, 0))).heap.size = w.heap.size + 1 := by simp
    rw [e1] at hx1
    clear e1
    have e2 : ((w.alloc (.cells #[.string a, .string b] 59 (0, 0))).alloc (.cells #[.slice oa cs.length cap] 28 (0, 0))).heap.size = w.heap.size + 1 + 1 := by simp
    rw [e2] at hx2
    clear e2
    obtain ⟨hx0a, hx0b, hx0c⟩ := two_facts hx0
    obtain ⟨hx1a, hx1f⟩ := one_cell hx1
    obtain ⟨hx2a, hx2b, hx2c⟩ := two_facts hx2
    obtain ⟨hx2f, hx2g⟩ := two_frozen hx2
    refine (hg _).mono ?_; rintro e w1 ⟨rfl, hb1⟩
    have hbw1 := nx hb0 hb1
    replace hx0 := heap_keep hb1 hx0
    replace hx1 := heap_keep hb1 hx1
    replace hx2 := heap_keep hb1 hx2
    clear hx0a hx0b hx0c hx1a hx1f hx2a hx2b hx2c hx2f hx2g
    obtain ⟨hx0a, hx0b, hx0c⟩ := two_facts hx0
    obtain ⟨hx1a, hx1f⟩ := one_cell hx1
    obtain ⟨hx2a, hx2b, hx2c⟩ := two_facts hx2
    obtain ⟨hx2f, hx2g⟩ := two_frozen hx2
    clear hb1 hb0
    go_wp2_with fail
    obtain ⟨q1, q2⟩ := two_cells (set_two (.string ⟨#[]⟩) (.string ⟨#[]⟩) hx2)
    refine bodyPost_ret (v := .tuple #[.agg #[.string ⟨#[]⟩, .string ⟨#[]⟩], .bool false]) (by simp [q1, q2, results, Try.results59, go_sem]) rfl ⟨rfl, ?_⟩
    exact (hbw1.setCell (by show w.heap.size ≤ w.heap.size + 1 + 1; omega) _).setCell (by show w.heap.size ≤ w.heap.size + 1 + 1; omega) _
  | some p =>
    rw [h] at hg
    obtain ⟨rfl, rfl, hok, hc1, hc2⟩ := pairOf_some h
    clear h
    show Calls _ _ _ _ (Gives (ansPr (if choB cs = true then some (redBy p cs) else none)) w)
    by_cases hl : cs.length ≤ 20
    rotate_left
    · have hf : choB cs = false := by unfold choB; rw [decide_eq_false hl, Bool.false_and]
      rw [hf]
      show Calls _ _ _ _ (Gives (ansPr none) w)
      have hl' : (20 : Int) < (cs.length : Int) := by omega
      clear hl hcc HV hf
      go_enter Try.func59, Try.ntmps59
      go_wp2_with fail
      have hb0 : Below w.heap.size w (((w.alloc (.cells #[.string p.1.str, .string p.2.str] 59 (0, 0))).alloc (.cells #[.slice oa cs.length cap] 28 (0, 0))).alloc (.cells #[.string ⟨#[]⟩, .string ⟨#[]⟩] 59 (0, 0))) := nxAlloc (nxAlloc (nxAlloc (Below.refl _ _) _) _) _
      have hx0 := heap_keep (nxAlloc (Below.refl _ _) (.cells #[.string ⟨#[]⟩, .string ⟨#[]⟩] 59 (0, 0))) (heap_keep (nxAlloc (Below.refl _ _) (.cells #[.slice oa cs.length cap] 28 (0, 0))) (heap_alloc_at w (.cells #[.string p.1.str, .string p.2.str] 59 (0, 0))))
      have hx1 := heap_keep (nxAlloc (Below.refl _ _) (.cells #[.string ⟨#[]⟩, .string ⟨#[]⟩] 59 (0, 0))) (heap_alloc_at (w.alloc (.cells #[.string p.1.str, .string p.2.str] 59 (0, 0))) (.cells #[.slice oa cs.length cap] 28 (0, 0)))
      have hx2 := heap_alloc_at ((w.alloc (.cells #[.string p.1.str, .string p.2.str] 59 (0, 0))).alloc (.cells #[.slice oa cs.length cap] 28 (0, 0))) (.cells #[.string ⟨#[]⟩, .string ⟨#[]⟩] 59 (0, 0))
      generalize (((w.alloc (.cells #[.string p.1.str, .string p.2.str] 59 (0, 0))).alloc (.cells #[.slice oa cs.length cap] 28 (0, 0))).alloc (.cells #[.string ⟨#[]⟩, .string ⟨#[]⟩] 59 (0, 0))) = w0 at *
      have e1 : (w.alloc (.cells #[.string p.1.str, .string p.2.str] 59 (0, 0))).heap.size = w.heap.size + 1 := by simp
      rw [e1] at hx1
      clear e1
      have e2 : ((w.alloc (.cells #[.string p.1.str, .string p.2.str] 59 (0, 0))).alloc (.cells #[.slice oa cs.length cap] 28 (0, 0))).heap.size = w.heap.size + 1 + 1 := by simp
      rw [e2] at hx2
      clear e2
      obtain ⟨hx0a, hx0b, hx0c⟩ := two_facts hx0
      obtain ⟨hx1a, hx1f⟩ := one_cell hx1
      obtain ⟨hx2a, hx2b, hx2c⟩ := two_facts hx2
      obtain ⟨hx2f, hx2g⟩ := two_frozen hx2
      refine (hg _).mono ?_; rintro e w1 ⟨rfl, hb1⟩
      have hbw1 := nx hb0 hb1
      replace hx0 := heap_keep hb1 hx0
      replace hx1 := heap_keep hb1 hx1
      replace hx2 := heap_keep hb1 hx2
      clear hx0a hx0b hx0c hx1a hx1f hx2a hx2b hx2c hx2f hx2g
      obtain ⟨hx0a, hx0b, hx0c⟩ := two_facts hx0
      obtain ⟨hx1a, hx1f⟩ := one_cell hx1
      obtain ⟨hx2a, hx2b, hx2c⟩ := two_facts hx2
      obtain ⟨hx2f, hx2g⟩ := two_frozen hx2
      clear hb1 hb0
      go_wp2_with fail
      obtain ⟨q1, q2⟩ := two_cells (set_two (.string ⟨#[]⟩) (.string ⟨#[]⟩) hx2)
      refine bodyPost_ret (v := .tuple #[.agg #[.string ⟨#[]⟩, .string ⟨#[]⟩], .bool false]) (by simp [q1, q2, results, Try.results59, go_sem]) rfl ⟨rfl, ?_⟩
      exact (hbw1.setCell (by show w.heap.size ≤ w.heap.size + 1 + 1; omega) _).setCell (by show w.heap.size ≤ w.heap.size + 1 + 1; omega) _
    have hl' : ¬ (20 : Int) < (cs.length : Int) := by omega
    have hC : choB cs = cs.all fun c => decide (0 ≤ c) := by unfold choB; rw [decide_eq_true hl, Bool.true_and]
    obtain ⟨R, hR⟩ : ∃ R, R = ansPr (if choB cs = true then some (redBy p cs) else none) := ⟨_, rfl⟩
    rw [← hR]
    have HR := Lib.hid hR
    have HC := Lib.hid hC
    clear hR hC hok
    go_enter Try.func59, Try.ntmps59
    go_wp2_with fail
    have hb0 : Below w.heap.size w (((w.alloc (.cells #[.string p.1.str, .string p.2.str] 59 (0, 0))).alloc (.cells #[.slice oa cs.length cap] 28 (0, 0))).alloc (.cells #[.string ⟨#[]⟩, .string ⟨#[]⟩] 59 (0, 0))) := nxAlloc (nxAlloc (nxAlloc (Below.refl _ _) _) _) _
    have hx0 := heap_keep (nxAlloc (Below.refl _ _) (.cells #[.string ⟨#[]⟩, .string ⟨#[]⟩] 59 (0, 0))) (heap_keep (nxAlloc (Below.refl _ _) (.cells #[.slice oa cs.length cap] 28 (0, 0))) (heap_alloc_at w (.cells #[.string p.1.str, .string p.2.str] 59 (0, 0))))
    have hx1 := heap_keep (nxAlloc (Below.refl _ _) (.cells #[.string ⟨#[]⟩, .string ⟨#[]⟩] 59 (0, 0))) (heap_alloc_at (w.alloc (.cells #[.string p.1.str, .string p.2.str] 59 (0, 0))) (.cells #[.slice oa cs.length cap] 28 (0, 0)))
    have hx2 := heap_alloc_at ((w.alloc (.cells #[.string p.1.str, .string p.2.str] 59 (0, 0))).alloc (.cells #[.slice oa cs.length cap] 28 (0, 0))) (.cells #[.string ⟨#[]⟩, .string ⟨#[]⟩] 59 (0, 0))
    generalize (((w.alloc (.cells #[.string p.1.str, .string p.2.str] 59 (0, 0))).alloc (.cells #[.slice oa cs.length cap] 28 (0, 0))).alloc (.cells #[.string ⟨#[]⟩, .string ⟨#[]⟩] 59 (0, 0))) = w0 at *
    have e1 : (w.alloc (.cells #[.string p.1.str, .string p.2.str] 59 (0, 0))).heap.size = w.heap.size + 1 := by simp
    rw [e1] at hx1
    clear e1
    have e2 : ((w.alloc (.cells #[.string p.1.str, .string p.2.str] 59 (0, 0))).alloc (.cells #[.slice oa cs.length cap] 28 (0, 0))).heap.size = w.heap.size + 1 + 1 := by simp
    rw [e2] at hx2
    clear e2
    obtain ⟨hx0a, hx0b, hx0c⟩ := two_facts hx0
    obtain ⟨hx1a, hx1f⟩ := one_cell hx1
    obtain ⟨hx2a, hx2b, hx2c⟩ := two_facts hx2
    obtain ⟨hx2f, hx2g⟩ := two_frozen hx2
    refine (hg _).mono ?_; rintro e w1 ⟨rfl, hb1⟩
    have hbw1 := nx hb0 hb1
    replace hx0 := heap_keep hb1 hx0
    replace hx1 := heap_keep hb1 hx1
    replace hx2 := heap_keep hb1 hx2
    clear hx0a hx0b hx0c hx1a hx1f hx2a hx2b hx2c hx2f hx2g
    obtain ⟨hx0a, hx0b, hx0c⟩ := two_facts hx0
    obtain ⟨hx1a, hx1f⟩ := one_cell hx1
    obtain ⟨hx2a, hx2b, hx2c⟩ := two_facts hx2
    obtain ⟨hx2f, hx2g⟩ := two_frozen hx2
    clear hb1 hb0
    go_wp2_with fail
    go_loopw [21] (fun i wr => ∃ k : Nat, k ≤ cs.length ∧ i = .int .i64 k ∧ wr = w1 ∧ Hid (choB cs = (cs.drop k).all fun c => decide (0 ≤ c))) (fun i _ => cs.length - (intOf i).toNat)
    case atStart => exact ⟨0, Nat.zero_le _, rfl, rfl, HC⟩
    case round =>
      obtain ⟨k, hk, rfl, rfl, he⟩ := hrel
      by_cases hlt : k < cs.length
      · obtain ⟨g, e1, _, hg1, c1⟩ := hcc k hlt
        have c2 := (hbw1.cell (p := ⟨g, k, none⟩) hg1).trans c1
        have had := all_drop hlt
        have hlt' : (k : Int) < (cs.length : Int) := by omega
        subst e1
        generalize cs.getD k 0 = c at *
        by_cases hneg : c < 0
        · have hf : Hid (choB cs = false) := by show _ = _; rw [he.out, had, decide_eq_false (by omega), Bool.false_and]
          have hR2 : Hid (.tuple #[.agg #[.string ⟨#[]⟩, .string ⟨#[]⟩], .bool false] = R) := by show _ = _; rw [HR.out, hf.out]; rfl
          clear had c1 hf he
          go_wp2_with fail
          obtain ⟨q1, q2⟩ := two_cells (set_two (.string ⟨#[]⟩) (.string ⟨#[]⟩) hx2)
          refine bodyPost_ret (v := .tuple #[.agg #[.string ⟨#[]⟩, .string ⟨#[]⟩], .bool false]) (by simp [q1, q2, results, Try.results59, go_sem]) rfl ⟨by rw [hR2.out], ?_⟩
          exact (hbw1.setCell (by show w.heap.size ≤ w.heap.size + 1 + 1; omega) _).setCell (by show w.heap.size ≤ w.heap.size + 1 + 1; omega) _
        · have hf : Hid (choB cs = (cs.drop (k + 1)).all fun c => decide (0 ≤ c)) := by show _ = _; rw [he.out, had, decide_eq_true (by omega), Bool.true_and]
          clear had c1
          go_wp2_with fail
          go_roundw
          case rel => exact ⟨k + 1, by omega, by go_num, trivial, hf⟩
          case measure => simp [intOf]; omega
      · obtain rfl : k = cs.length := by omega
        have hf : choB cs = true := by rw [he.out, List.drop_of_length_le (Nat.le_refl _)]; rfl
        have hall := (choB_all hf).2
        have hR2 : Hid (.tuple #[.agg #[.string (redBy p cs).1.str, .string (redBy p cs).2.str], .bool true] = R) := by show _ = _; rw [HR.out, hf]; rfl
        clear hf he
        go_wp2_with fail
        have hS := heap_alloc_at wr (.cells #[.int .i64 0] 3 (0, 0))
        have hbA : Below wr.heap.size wr (wr.alloc (.cells #[.int .i64 0] 3 (0, 0))) := nxAlloc (Below.refl _ _) _
        replace hx1 := heap_keep hbA hx1
        replace hx2 := heap_keep hbA hx2
        have hbwA := nx hbw1 hbA
        have hsA : wr.heap.size < (wr.alloc (.cells #[.int .i64 0] 3 (0, 0))).heap.size := by simp
        have hlA : w.heap.size + 1 + 1 < wr.heap.size := hx2c
        generalize wr.alloc (.cells #[.int .i64 0] 3 (0, 0)) = wA at *
        clear hx0 hx0a hx0b hx0c hx1a hx1f hx2a hx2b hx2c hx2f hx2g hbA
        have hRB := reducedBy_choice p cs w.heap.size wr.heap.size (w.heap.size + 1) oa cap wA (by omega) (by omega) hS hx1 (by omega) (by omega) hbwA.size (fun i hi => by
          obtain ⟨g, e1, _, e2, e3⟩ := hcc i hi
          exact ⟨g, e1, e2, (hbwA.cell (p := ⟨g, i, none⟩) e2).trans e3⟩) (fun c hc => ⟨hall c hc, (h9 c hc).2⟩) (by omega)
        generalize wr.heap.size = bs at *
        clear hcc
        refine hRB.mono ?_; rintro e wB ⟨rfl, hbB, hmB⟩
        have hx2B : wB.heap[w.heap.size + 1 + 1]? = some (.cells #[.string ⟨#[]⟩, .string ⟨#[]⟩] 59 (0, 0)) := (hmB _ (by omega) (by omega)).trans hx2
        obtain ⟨n1, n2⟩ := two_cells hx2B
        obtain ⟨f1, f2⟩ := two_frozen hx2B
        have hbwB := hbwA.trans hbB
        go_wp2_with fail
        obtain ⟨q1, q2⟩ := two_cells (set_two (.string (redBy p cs).1.str) (.string (redBy p cs).2.str) hx2B)
        refine bodyPost_ret (v := .tuple #[.agg #[.string (redBy p cs).1.str, .string (redBy p cs).2.str], .bool true]) (by simp [q1, q2, results, Try.results59, go_sem]) rfl ⟨by rw [hR2.out], ?_⟩
        exact (hbwB.setCell (by show w.heap.size ≤ w.heap.size + 1 + 1; omega) _).setCell (by show w.heap.size ≤ w.heap.size + 1 + 1; omega) _
end Go.Proofs.Yteflpaebckichab

/-! WIsPair -/
namespace Go.Proofs.Yteflpaebckichab
open Go.RowKit

theorem implIsPair_any (a b : ByteArray) (w : World) (ha : a.size ≤ 9223372036854775806) (hb : b.size ≤ 9223372036854775806) :
    Calls Try.prog 63 #[.agg #[.string a, .string b]] w (Gives (.bool (pairOf a b).isSome) w) := isPair_any a b w ha hb

end Go.Proofs.Yteflpaebckichab

/-! ParseI -/
namespace Go.Proofs.Yteflpaebckichab
open Go.RowKit

/-- The index of the first byte c from an index on. -/
def idxB (s : ByteArray) (c : UInt8) : Int := Lib.indexByte s.data.toList c

set_option maxRecDepth 100000 in
set_option maxHeartbeats 1000000 in
theorem indexByteS_any (s : ByteArray) (c : UInt8) (w : World) :
    Calls Try.prog 172 #[.string s, .int .u8 c.toNat] w fun e w' => e = .returned (.int .i64 (idxB s c)) ∧ w = w' := by
  go_enter Try.func172, Try.ntmps172
  go_wp2
  rw [run_callFunc_extern Try.func176 (by kernel_rfl) (by kernel_rfl) (by kernel_rfl) (e := Extern.BytealgIndexByte.indexByte) (by kernel_rfl), Lib.run_indexByteString]
  simp only [Result.andThen]
  rw [Oper.upon_value]
  go_wp2
  go_ret
  refine ⟨ret_int ?_, rfl⟩
  unfold idxB
  simp

set_option maxRecDepth 100000 in
set_option maxHeartbeats 1000000 in
theorem index62_any (s : ByteArray) (w : World) :
    Calls Try.prog 169 #[.string s, .string ⟨#[62]⟩] w fun e w' => e = .returned (.int .i64 (idxB s 62)) ∧ w = w' := by
  have hI := fun w => indexByteS_any s 62 w
  have gz : ((⟨#[62]⟩ : ByteArray)[0]'(by decide)).toNat = 62 := rfl
  have ez : ((62 : UInt8).toNat : Int) = 62 := rfl
  rw [ez] at hI
  cases hq : ([62] == s.toList) with
  | true =>
    have h0 : idxB s 62 = 0 := by
      unfold idxB
      rw [← Lib.toList_data, ← (beq_iff_eq.1 hq)]
      rfl
    rw [h0]
    clear hI h0 ez
    go_enter Try.func169, Try.ntmps169
    go_wp2_with fail
    go_ret
    exact ⟨rfl, rfl⟩
  | false =>
    generalize idxB s 62 = z at *
    clear ez
    go_enter Try.func169, Try.ntmps169
    go_wp2_with fail
    refine (hI _).mono ?_; rintro e w1 ⟨rfl, rfl⟩
    go_wp2_with fail
    go_ret
    exact ⟨rfl, rfl⟩

theorem idx_spec (l : List UInt8) (c : UInt8) : (Lib.indexByte l c = -1 ∧ ∀ j : Nat, l[j]? ≠ some c) ∨ ∃ k : Nat, Lib.indexByte l c = k ∧ k < l.length ∧ l[k]? = some c ∧ ∀ j, j < k → l[j]? ≠ some c := by
  induction l with
  | nil => exact .inl ⟨rfl, fun j => by simp⟩
  | cons a l ih =>
    unfold Lib.indexByte
    by_cases h : (a == c) = true
    · rw [if_pos h]
      have : a = c := by simpa using h
      exact .inr ⟨0, rfl, by simp, by simp [this], fun j hj => by omega⟩
    · rw [if_neg h]
      have hne : a ≠ c := by simpa using h
      rcases ih with ⟨h1, h2⟩ | ⟨k, h1, h2, h3, h4⟩
      · left
        refine ⟨by rw [h1]; rfl, fun j => ?_⟩
        cases j with
        | zero => simpa using hne
        | succ j => simpa using h2 j
      · right
        refine ⟨k + 1, ?_, by simp; omega, by simpa using h3, fun j hj => ?_⟩
        · rw [h1]
          have : (((k : Nat) : Int) == -1) = false := by rw [beq_eq_false_iff_ne]; omega
          rw [this]
          simp
        · cases j with
          | zero => simpa using hne
          | succ j => simpa using h4 j (by omega)
theorem idxB_spec (s : ByteArray) (c : UInt8) : (idxB s c = -1 ∧ ∀ j : Nat, s.data.toList[j]? ≠ some c) ∨ ∃ k : Nat, idxB s c = k ∧ k < s.size ∧ s.data.toList[k]? = some c ∧ ∀ j, j < k → s.data.toList[j]? ≠ some c := by
  have := idx_spec s.data.toList c
  rw [← Lib.size_eq] at this
  exact this

def CutV (s : ByteArray) : Value := if 0 ≤ idxB s 62 then .tuple #[.string (s.extract 0 (idxB s 62).toNat), .string (s.extract ((idxB s 62).toNat + 1) s.size), .bool true] else .tuple #[.string s, .string ⟨#[]⟩, .bool false]

set_option maxRecDepth 100000 in
set_option maxHeartbeats 1000000 in
theorem cutS_any (s : ByteArray) (w : World) (hs : s.size ≤ 9223372036854775806) :
    Calls Try.prog 158 #[.string s, .string ⟨#[62]⟩] w (Gives (CutV s) w) := by
  have hI := fun w => index62_any s w
  unfold CutV
  rcases idxB_spec s 62 with ⟨h1, _⟩ | ⟨k, h1, h2, _, _⟩
  · rw [h1] at hI
    rw [h1, if_neg (by decide)]
    clear h1
    go_enter Try.func158, Try.ntmps158
    go_wp2_with fail
    refine (hI _).mono ?_; rintro e w1 ⟨rfl, rfl⟩
    go_wp2_with fail
    go_ret3
    exact ⟨rfl, Below.refl _ _⟩
  · rw [h1] at hI
    rw [h1, if_pos (by omega)]
    have hk : (k : Int) ≤ (s.size : Int) := by omega
    have hk1 : (k : Int) + 1 ≤ (s.size : Int) := by omega
    have et : ((k : Int)).toNat = k := by omega
    rw [et]
    have e1 : IntKind.i64.wrap ((k : Int) + 1) = (k : Int) + 1 := by rw [IntKind.wrap_i64]; omega
    have e2 : ((k : Int) + 1).toNat = k + 1 := by omega
    have e3 : (0 : Int) ≤ (k : Int) + 1 := by omega
    clear h1 et
    go_enter Try.func158, Try.ntmps158
    go_wp2_with fail
    refine (hI _).mono ?_; rintro e w1 ⟨rfl, rfl⟩
    go_wp2_with fail
    go_quiet (fail)
    go_wp2_with fail
    go_ret3
    exact ⟨rfl, drewB (Below.refl _ _) _⟩

theorem strings_cut (s : ByteArray) (w : World) (hs : s.size ≤ 9223372036854775806) : Calls Try.prog 143 #[.string s, .string ⟨#[62]⟩] w (Gives (CutV s) w) := by
  have hC := fun w => cutS_any s w hs
  unfold CutV at hC ⊢
  rcases idxB_spec s 62 with ⟨h1, _⟩ | ⟨k, h1, _, _, _⟩
  · simp only [h1, if_neg (show ¬ (0:Int) ≤ -1 by decide)] at hC ⊢
    clear h1
    go_enter Try.func143, Try.ntmps143
    go_wp2_with fail
    refine (hC _).mono ?_; rintro e w1 ⟨rfl, hb1⟩
    go_wp2_with fail
    go_ret3
    exact ⟨rfl, hb1⟩
  · simp only [h1, if_pos (show (0:Int) ≤ (k:Int) by omega)] at hC ⊢
    clear h1
    generalize s.extract 0 ((k : Int)).toNat = X at *
    generalize s.extract (((k : Int)).toNat + 1) s.size = Y at *
    go_enter Try.func143, Try.ntmps143
    go_wp2_with fail
    refine (hC _).mono ?_; rintro e w1 ⟨rfl, hb1⟩
    go_wp2_with fail
    go_ret3
    exact ⟨rfl, hb1⟩

/-- The pieces of a text between the bytes 62, from an index on (fuel: what is left). -/
def pcs (s : ByteArray) : Nat → Nat → Nat → List ByteArray
  | 0, a, _ => [s.extract a s.size]
  | k + 1, a, i => if s.data.toList[i]? = some 62 then s.extract a i :: pcs s k (i + 1) (i + 1) else pcs s k a (i + 1)

theorem oneS1 (m : ByteArray) : ∀ u ∈ [Value.string m], u.oneCell' = true := by intro u hu; simp at hu; subst hu; rfl
theorem OwnS.snoc {base : Nat} {w : World} {v : Value} {xs : List ByteArray} {m : ByteArray} (h : w.ownsRow base 9 1 v (xs.length + 1) (xs.map Value.string ++ [Value.string m])) : OwnS base w v (xs ++ [m]) := by
  unfold OwnS; rw [List.length_append, List.map_append]; exact h

set_option maxRecDepth 100000 in
set_option maxHeartbeats 2000000 in
theorem split_any (s : ByteArray) (w : World) (hs : s.size ≤ 2000000) :
    Calls Try.prog 159 #[.string s, .int .u8 62] w fun e w' => ∃ v, OwnS w.heap.size w' v (pcs s s.size 0 0) ∧ Below w.heap.size w w' ∧ e = .returned v := by
  obtain ⟨i0, hi, hz0, hz1, hz2⟩ := info_parts info_str
  go_enter Try.func159, Try.ntmps159
  go_wp2_with fail
  go_loopw [5, 6, 7] (fun v f i wr => ∃ (a k : Nat) (xs : List ByteArray), f = .int .i64 a ∧ i = .int .i64 k ∧ a ≤ k ∧ k ≤ s.size ∧ xs.length ≤ k ∧ OwnS w.heap.size wr v xs ∧ Below w.heap.size w wr ∧ Hid (pcs s s.size 0 0 = xs ++ pcs s (s.size - k) a k)) (fun _ _ i _ => s.size - (intOf i).toNat)
  case atStart => exact ⟨0, 0, [], rfl, rfl, Nat.le_refl _, Nat.zero_le _, Nat.le_refl _, OwnS.nil _ _, Below.refl _ _, by show _ = _; rfl⟩
  case round =>
    obtain ⟨a, k, xs, rfl, rfl, hak, hk, hxl, hown, hbw, he⟩ := hrel
    by_cases hlt : k < s.size
    · have hlt' : (k : Int) < (s.size : Int) := by omega
      have hsk : s.data.toList[k]? = some (s[k]'hlt) := by
        have hl : k < s.data.toList.length := by rw [← Lib.size_eq]; exact hlt
        rw [List.getElem?_eq_getElem hl]; rfl
      have hu : (s[k]'hlt = 62) ↔ (((s[k]'hlt).toNat : Int) == 62) = true := by
        rw [beq_iff_eq]
        exact ⟨fun e => by rw [e]; rfl, fun e => u8_eq (n := 62) (by omega) e⟩
      have hf : s.size - k = (s.size - (k + 1)) + 1 := by omega
      have he0 := he.out
      rw [hf, pcs, hsk] at he0
      cases hb : (((s[k]'hlt).toNat : Int) == 62) with
      | true =>
        rw [if_pos (by rw [hu.2 hb])] at he0
        have he' : pcs s s.size 0 0 = (xs ++ [s.extract a k]) ++ pcs s (s.size - (k + 1)) (k + 1) (k + 1) := by rw [he0]; simp
        have HE := Lib.hid he'
        have hA : (a : Int) ≤ (k : Int) := by omega
        clear he0 he' hu hsk hf he
        go_wp2_with (at_builtin; refine wpList_append_own _ rfl _ _ 25 rfl w.heap.size 9 i0 (.string ⟨#[]⟩) 1 16 Try.underlying25 hi hz0 hz1 hz2 rfl (by decide) _ _ _ rfl (hown.alloc _) ⟨wr.heap.size, 0, none⟩ 1 1 [.string (s.extract a k)] rfl rfl (new1 _ _ _) (oneS1 _) (by unfold maxLen; omega) (by omega) (size_al hbw _) ?_; intro v' w1 hown' hgrow hnn)
        have hbw' := below_app hbw hown (Nat.le_refl _) hgrow
        have hown1 := OwnS.snoc hown'
        clear hown hown' hgrow hbw hnn
        go_wp2_with fail
        go_roundw
        case rel => exact ⟨k + 1, k + 1, xs ++ [s.extract a k], by go_num, by go_num, Nat.le_refl _, by omega, by simp; omega, hown1, hbw', HE⟩
        case measure => simp [intOf]; omega
      | false =>
        rw [if_neg (by intro e; rw [hu.1 (by injection e)] at hb; cases hb)] at he0
        have HE := Lib.hid he0
        clear he0 hu hsk hf he
        go_wp2_with fail
        go_roundw
        case rel => exact ⟨a, k + 1, xs, rfl, by go_num, by omega, by omega, by omega, hown, hbw, HE⟩
        case measure => simp [intOf]; omega
    · obtain rfl : k = s.size := by omega
      have he0 := he.out
      rw [Nat.sub_self, pcs] at he0
      have HE := Lib.hid he0
      have hA : (a : Int) ≤ (s.size : Int) := by omega
      clear he0 he
      go_wp2_with (at_builtin; refine wpList_append_own _ rfl _ _ 25 rfl w.heap.size 9 i0 (.string ⟨#[]⟩) 1 16 Try.underlying25 hi hz0 hz1 hz2 rfl (by decide) _ _ _ rfl (hown.alloc _) ⟨wr.heap.size, 0, none⟩ 1 1 [.string (s.extract a s.size)] rfl rfl (new1 _ _ _) (oneS1 _) (by unfold maxLen; omega) (by omega) (size_al hbw _) ?_; intro v' w1 hown' hgrow hnn)
      have hbw' := below_app hbw hown (Nat.le_refl _) hgrow
      have hown1 := OwnS.snoc hown'
      clear hown hown' hgrow hbw hnn
      go_wp2_with fail
      go_ret
      exact ⟨_, by rw [HE.out]; exact hown1, hbw', rfl⟩
end Go.Proofs.Yteflpaebckichab

/-! ParseC -/
namespace Go.Proofs.Yteflpaebckichab
open Go.RowKit

/-- The pair of what lies ahead of the first byte 62 and behind it. -/
def cutP (s : ByteArray) : Option Pr := if 0 ≤ idxB s 62 then pairOf (s.extract 0 (idxB s 62).toNat) (s.extract ((idxB s 62).toNat + 1) s.size) else none

theorem pcs_skip (s : ByteArray) (f a : Nat) : ∀ (n i : Nat), (∀ j, i ≤ j → j < i + n → s.data.toList[j]? ≠ some 62) → pcs s (n + f) a i = pcs s f a (i + n) := by
  intro n
  induction n with
  | zero => intro i _; rw [Nat.zero_add]; rfl
  | succ n ih =>
    intro i h
    rw [show n + 1 + f = (n + f) + 1 by omega, pcs, if_neg (h i (by omega) (by omega)), ih (i + 1) (fun j h1 h2 => h j (by omega) (by omega)), show i + 1 + n = i + (n + 1) by omega]
theorem pcs_pos (s : ByteArray) : ∀ (f a i : Nat), 0 < (pcs s f a i).length := by
  intro f
  induction f with
  | zero => intro a i; simp [pcs]
  | succ f ih => intro a i; rw [pcs]; split
                 · simp
                 · exact ih _ _
theorem pcs_two (s : ByteArray) : ∀ (f a i j : Nat), i ≤ j → j < i + f → s.data.toList[j]? = some 62 → 2 ≤ (pcs s f a i).length := by
  intro f
  induction f with
  | zero => intro a i j h1 h2; omega
  | succ f ih =>
    intro a i j h1 h2 h3
    rw [pcs]
    split
    · have := pcs_pos s f (i + 1) (i + 1)
      simp; omega
    · next h =>
      have : i ≠ j := fun e => h (e ▸ h3)
      exact ih _ _ j (by omega) (by omega) h3

theorem text_no62 (t : Tr) : (62 : UInt8) ∉ t.text := by
  induction t with
  | lf => simp [Tr.text]
  | nd l r hl hr => simp [Tr.text, hl, hr]

theorem pcs_one {s : ByteArray} (h : ∀ j : Nat, s.data.toList[j]? ≠ some 62) : pcs s s.size 0 0 = [s] := by
  have := pcs_skip s 0 0 s.size 0 (fun j _ _ => h j)
  rw [Nat.add_zero, Nat.zero_add] at this
  rw [this, pcs, ByteArray.extract_zero_size]

theorem cutP_none {s : ByteArray} (h : 200 < s.size ∨ (pcs s s.size 0 0).length ≠ 2) : cutP s = none := by
  unfold cutP
  rcases idxB_spec s 62 with ⟨h1, _⟩ | ⟨k, h1, h2, h3, h4⟩
  · rw [h1, if_neg (by decide)]
  · rw [h1, if_pos (by omega), show ((k : Int)).toNat = k by omega]
    cases hp : pairOf (s.extract 0 k) (s.extract (k + 1) s.size) with
    | none => rfl
    | some p =>
      exfalso
      obtain ⟨e1, e2, _, c1, c2⟩ := pairOf_some hp
      have s1 := p.1.str_size
      have s2 := p.2.str_size
      rw [← e1] at s1
      rw [← e2] at s2
      rw [ByteArray.size_extract] at s1 s2
      have hz : ¬ 200 < s.size := by omega
      refine (h.resolve_left hz) ?_
      have e0 := pcs_skip s (s.size - k) 0 k 0 (fun j _ hj => h4 j (by omega))
      rw [show k + (s.size - k) = s.size by omega, Nat.zero_add, show s.size - k = (s.size - (k + 1)) + 1 by omega, pcs, if_pos h3] at e0
      have e3 := pcs_skip s 0 (k + 1) (s.size - (k + 1)) (k + 1) (by
        intro j h5 h6 h7
        have h8 : (s.data.toList.drop (k + 1))[j - (k + 1)]? = some 62 := by
          rw [List.getElem?_drop, show k + 1 + (j - (k + 1)) = j by omega]; exact h7
        rw [← ext_end, e2, Tr.str_list] at h8
        exact text_no62 _ (List.mem_of_getElem? h8))
      rw [Nat.add_zero] at e3
      rw [e0, e3, pcs]
      rfl

theorem cutP_two {s : ByteArray} (h : (pcs s s.size 0 0).length = 2) : ∃ a b, pcs s s.size 0 0 = [a, b] ∧ cutP s = pairOf a b ∧ a.size ≤ s.size ∧ b.size ≤ s.size := by
  unfold cutP
  rcases idxB_spec s 62 with ⟨h1, h2⟩ | ⟨k, h1, h2, h3, h4⟩
  · rw [pcs_one h2] at h; simp at h
  · rw [h1, if_pos (by omega), show ((k : Int)).toNat = k by omega]
    have e0 := pcs_skip s (s.size - k) 0 k 0 (fun j _ hj => h4 j (by omega))
    rw [show k + (s.size - k) = s.size by omega, Nat.zero_add, show s.size - k = (s.size - (k + 1)) + 1 by omega, pcs, if_pos h3] at e0
    have hno : ∀ j, k + 1 ≤ j → j < s.size → s.data.toList[j]? ≠ some 62 := by
      intro j h5 h6 h7
      have := pcs_two s (s.size - (k + 1)) (k + 1) (k + 1) j h5 (by omega) h7
      rw [e0] at h
      simp at h
      omega
    have e3 := pcs_skip s 0 (k + 1) (s.size - (k + 1)) (k + 1) (fun j h5 h6 => hno j h5 (by omega))
    rw [Nat.add_zero] at e3
    refine ⟨_, _, by rw [e0, e3, pcs], rfl, ?_, ?_⟩
    · rw [ByteArray.size_extract]; omega
    · rw [ByteArray.size_extract]; omega


set_option maxHeartbeats 1000000 in
theorem prIfA_any (a b : ByteArray) (w : World) (ha : a.size ≤ 9223372036854775806) (hb : b.size ≤ 9223372036854775806) :
    Calls Try.prog 160 #[.agg #[.string a, .string b]] w (Gives (ansPr (pairOf a b)) w) := by
  have hg := fun w => prGood_any a b w ha hb
  cases h : pairOf a b with
  | none =>
    rw [h] at hg
    clear h
    show Calls _ _ _ _ (Gives (ansPr none) w)
    go_enter Try.func160, Try.ntmps160
    go_wp2_with fail
    have hb0 : Below w.heap.size w ((w.alloc (.cells #[.string a, .string b] 59 (0, 0))).alloc (.cells #[.string ⟨#[]⟩, .string ⟨#[]⟩] 59 (0, 0))) := nxAlloc (nxAlloc (Below.refl _ _) _) _
    have hx0 := heap_keep (nxAlloc (Below.refl _ _) (.cells #[.string ⟨#[]⟩, .string ⟨#[]⟩] 59 (0, 0))) (heap_alloc_at w (.cells #[.string a, .string b] 59 (0, 0)))
    have hx1 := heap_alloc_at (w.alloc (.cells #[.string a, .string b] 59 (0, 0))) (.cells #[.string ⟨#[]⟩, .string ⟨#[]⟩] 59 (0, 0))
    generalize ((w.alloc (.cells #[.string a, .string b] 59 (0, 0))).alloc (.cells #[.string ⟨#[]⟩, .string ⟨#[]⟩] 59 (0, 0))) = w0 at *
    have e1 : (w.alloc (.cells #[.string a, .string b] 59 (0, 0))).heap.size = w.heap.size + 1 := by simp
    rw [e1] at hx1
    clear e1
    obtain ⟨hx0a, hx0b, hx0c⟩ := two_facts hx0
    obtain ⟨hx0f, hx0g⟩ := two_frozen hx0
    obtain ⟨hx1a, hx1b, hx1c⟩ := two_facts hx1
    obtain ⟨hx1f, hx1g⟩ := two_frozen hx1
    refine (hg _).mono ?_; rintro e w1 ⟨rfl, hb1⟩
    have hbw1 := nx hb0 hb1
    replace hx0 := heap_keep hb1 hx0
    replace hx1 := heap_keep hb1 hx1
    clear hx0a hx0b hx0c hx0f hx0g
    obtain ⟨hx0a, hx0b, hx0c⟩ := two_facts hx0
    obtain ⟨hx0f, hx0g⟩ := two_frozen hx0
    clear hx1a hx1b hx1c hx1f hx1g
    obtain ⟨hx1a, hx1b, hx1c⟩ := two_facts hx1
    obtain ⟨hx1f, hx1g⟩ := two_frozen hx1
    clear hb1 hb0
    go_wp2_with fail
    obtain ⟨q1, q2⟩ := two_cells (set_two (.string ⟨#[]⟩) (.string ⟨#[]⟩) hx1)
    refine bodyPost_ret (v := .tuple #[.agg #[.string ⟨#[]⟩, .string ⟨#[]⟩], .bool false]) (by simp [q1, q2, results, Try.results160, go_sem]) rfl ⟨rfl, ?_⟩
    exact (hbw1.setCell (by show w.heap.size ≤ w.heap.size + 1; omega) _).setCell (by show w.heap.size ≤ w.heap.size + 1; omega) _
  | some p =>
    rw [h] at hg
    obtain ⟨rfl, rfl, hok, hc1, hc2⟩ := pairOf_some h
    clear h
    show Calls _ _ _ _ (Gives (ansPr (some p)) w)
    go_enter Try.func160, Try.ntmps160
    go_wp2_with fail
    have hb0 : Below w.heap.size w ((w.alloc (.cells #[.string p.1.str, .string p.2.str] 59 (0, 0))).alloc (.cells #[.string ⟨#[]⟩, .string ⟨#[]⟩] 59 (0, 0))) := nxAlloc (nxAlloc (Below.refl _ _) _) _
    have hx0 := heap_keep (nxAlloc (Below.refl _ _) (.cells #[.string ⟨#[]⟩, .string ⟨#[]⟩] 59 (0, 0))) (heap_alloc_at w (.cells #[.string p.1.str, .string p.2.str] 59 (0, 0)))
    have hx1 := heap_alloc_at (w.alloc (.cells #[.string p.1.str, .string p.2.str] 59 (0, 0))) (.cells #[.string ⟨#[]⟩, .string ⟨#[]⟩] 59 (0, 0))
    generalize ((w.alloc (.cells #[.string p.1.str, .string p.2.str] 59 (0, 0))).alloc (.cells #[.string ⟨#[]⟩, .string ⟨#[]⟩] 59 (0, 0))) = w0 at *
    have e1 : (w.alloc (.cells #[.string p.1.str, .string p.2.str] 59 (0, 0))).heap.size = w.heap.size + 1 := by simp
    rw [e1] at hx1
    clear e1
    obtain ⟨hx0a, hx0b, hx0c⟩ := two_facts hx0
    obtain ⟨hx0f, hx0g⟩ := two_frozen hx0
    obtain ⟨hx1a, hx1b, hx1c⟩ := two_facts hx1
    obtain ⟨hx1f, hx1g⟩ := two_frozen hx1
    refine (hg _).mono ?_; rintro e w1 ⟨rfl, hb1⟩
    have hbw1 := nx hb0 hb1
    replace hx0 := heap_keep hb1 hx0
    replace hx1 := heap_keep hb1 hx1
    clear hx0a hx0b hx0c hx0f hx0g
    obtain ⟨hx0a, hx0b, hx0c⟩ := two_facts hx0
    obtain ⟨hx0f, hx0g⟩ := two_frozen hx0
    clear hx1a hx1b hx1c hx1f hx1g
    obtain ⟨hx1a, hx1b, hx1c⟩ := two_facts hx1
    obtain ⟨hx1f, hx1g⟩ := two_frozen hx1
    clear hb1 hb0
    go_wp2_with fail
    obtain ⟨q1, q2⟩ := two_cells (set_two (.string p.1.str) (.string p.2.str) hx1)
    refine bodyPost_ret (v := .tuple #[.agg #[.string p.1.str, .string p.2.str], .bool true]) (by simp [q1, q2, results, Try.results160, go_sem]) rfl ⟨rfl, ?_⟩
    exact (hbw1.setCell (by show w.heap.size ≤ w.heap.size + 1; omega) _).setCell (by show w.heap.size ≤ w.heap.size + 1; omega) _

set_option maxRecDepth 100000 in
set_option maxHeartbeats 2000000 in
theorem prParse_any (s : ByteArray) (w : World) (hs : s.size ≤ 2000000) :
    Calls Try.prog 144 #[.string s] w (Gives (ansPr (cutP s)) w) := by
  have S := fun w => split_any s w hs
  have hp := pcs_pos s s.size 0 0
  by_cases h2 : s.size ≤ 200 ∧ (pcs s s.size 0 0).length = 2
  · obtain ⟨h1, h2⟩ := h2
    obtain ⟨a, b, e1, e2, z1, z2⟩ := cutP_two h2
    have L := fun w => prIfA_any a b w (by omega) (by omega)
    rw [e2]
    rw [e1] at S
    clear h2 hp e1 e2 z1 z2
    generalize pairOf a b = o at *
    unfold ansPr at *
    generalize pS1 o = x1 at *
    generalize pS2 o = x2 at *
    generalize o.isSome = ok at *
    go_enter Try.func144, Try.ntmps144
    go_wp2_with fail
    have hb0 : Below w.heap.size w (w.alloc (.cells #[.string ⟨#[]⟩, .string ⟨#[]⟩] 59 (0, 0))) := nxAlloc (Below.refl _ _) _
    have hx0 := heap_alloc_at w (.cells #[.string ⟨#[]⟩, .string ⟨#[]⟩] 59 (0, 0))
    generalize (w.alloc (.cells #[.string ⟨#[]⟩, .string ⟨#[]⟩] 59 (0, 0))) = w0 at *
    obtain ⟨hx0a, hx0b, hx0c⟩ := two_facts hx0
    obtain ⟨hx0f, hx0g⟩ := two_frozen hx0
    refine (S _).mono ?_; rintro e w1 ⟨v, hown, hb1, rfl⟩
    have hbw1 := nx hb0 hb1
    replace hx0 := heap_keep hb1 hx0
    clear hx0a hx0b hx0c hx0f hx0g
    obtain ⟨hx0a, hx0b, hx0c⟩ := two_facts hx0
    obtain ⟨hx0f, hx0g⟩ := two_frozen hx0
    obtain ⟨g, cap, rfl⟩ := hown.shape (by simp)
    have hc := hown.cells
    clear hb1 hb0 hown S
    rcases hc with ⟨h3, _⟩ | ⟨g', cap', h3, hg1, hg2, hg3, hg4, hcell, hfr⟩
    · cases h3
    cases h3
    have k0 := hcell 0 (by simp)
    have k1 := hcell 1 (by simp)
    simp only [List.length_cons, List.length_nil, List.getD_cons_zero, List.getD_cons_succ] at *
    clear hcell hg3 hg4 hfr
    go_wp2_with fail
    refine wp_region_clsT 10 (by kernel_rfl) (by kernel_rfl) ?_
    simp only [List.take_succ_cons, List.take_zero, List.drop_succ_cons, List.drop_zero]
    repeat (
      refine wpQuiet_step (fun K hK => ?_)
      go_simp
      first
        | (refine hK _ ?_; clear hK K)
        | (refine ⟨_, fun _ _ => rfl, hK _ ?_⟩; clear hK K)
        | (apply Exists.intro
           refine ⟨fun w' hw' => ?_, hK _ ?_⟩
           · first
               | (rw [hw'.cell hg2 k0]; exact ⟨rfl, rfl⟩)
               | (rw [hw'.cell hg2 k1]; exact ⟨rfl, rfl⟩)
               | (go_at_call 160; exact hw'.call (L _))
           clear hK K))
    refine wpQuiet_nil ?_
    intro w' hw'
    have hbwf := nx hbw1 hw'
    replace hx0 := heap_keep hw' hx0
    clear hw' hbw1
    clear hx0a hx0b hx0c hx0f hx0g
    obtain ⟨hx0a, hx0b, hx0c⟩ := two_facts hx0
    obtain ⟨hx0f, hx0g⟩ := two_frozen hx0
    go_wp2_with fail
    obtain ⟨q1, q2⟩ := two_cells (set_two (.string x1) (.string x2) hx0)
    refine bodyPost_ret (v := .tuple #[.agg #[.string x1, .string x2], .bool ok]) (by simp [q1, q2, results, Try.results144, go_sem]) rfl ⟨rfl, ?_⟩
    exact (hbwf.setCell (by show w.heap.size ≤ w.heap.size; omega) _).setCell (by show w.heap.size ≤ w.heap.size; omega) _
  · rw [cutP_none (by omega)]
    show Calls _ _ _ _ (Gives (ansPr none) w)
    generalize hl : pcs s s.size 0 0 = ps at *
    clear hl
    go_enter Try.func144, Try.ntmps144
    go_wp2_with fail
    have hb0 : Below w.heap.size w (w.alloc (.cells #[.string ⟨#[]⟩, .string ⟨#[]⟩] 59 (0, 0))) := nxAlloc (Below.refl _ _) _
    have hx0 := heap_alloc_at w (.cells #[.string ⟨#[]⟩, .string ⟨#[]⟩] 59 (0, 0))
    generalize (w.alloc (.cells #[.string ⟨#[]⟩, .string ⟨#[]⟩] 59 (0, 0))) = w0 at *
    obtain ⟨hx0a, hx0b, hx0c⟩ := two_facts hx0
    obtain ⟨hx0f, hx0g⟩ := two_frozen hx0
    refine (S _).mono ?_; rintro e w1 ⟨v, hown, hb1, rfl⟩
    have hbw1 := nx hb0 hb1
    replace hx0 := heap_keep hb1 hx0
    clear hx0a hx0b hx0c hx0f hx0g
    obtain ⟨hx0a, hx0b, hx0c⟩ := two_facts hx0
    obtain ⟨hx0f, hx0g⟩ := two_frozen hx0
    obtain ⟨g, cap, rfl⟩ := hown.shape hp
    clear hb1 hb0 hown S hp
    generalize ps.length = n at *
    have hq : (200 < s.size) ∨ ¬ n = 2 := by omega
    clear h2
    cases hz : decide (200 < s.size) with
    | true =>
      have hz' : (200 < s.size) := by simpa using hz
      clear hq hz
      go_wp2_with fail
      obtain ⟨q1, q2⟩ := two_cells (set_two (.string ⟨#[]⟩) (.string ⟨#[]⟩) hx0)
      refine bodyPost_ret (v := .tuple #[.agg #[.string ⟨#[]⟩, .string ⟨#[]⟩], .bool false]) (by simp [q1, q2, results, Try.results144, go_sem]) rfl ⟨rfl, ?_⟩
      exact (hbw1.setCell (by show w.heap.size ≤ w.heap.size; omega) _).setCell (by show w.heap.size ≤ w.heap.size; omega) _
    | false =>
      have hz' : ¬ (200 < s.size) := by simpa using hz
      have hn : ((n : Int) != 2) = true := by have := hq.resolve_left hz'; rw [bne_iff_ne]; omega
      clear hq hz
      go_wp2_with fail
      obtain ⟨q1, q2⟩ := two_cells (set_two (.string ⟨#[]⟩) (.string ⟨#[]⟩) hx0)
      refine bodyPost_ret (v := .tuple #[.agg #[.string ⟨#[]⟩, .string ⟨#[]⟩], .bool false]) (by simp [q1, q2, results, Try.results144, go_sem]) rfl ⟨rfl, ?_⟩
      exact (hbw1.setCell (by show w.heap.size ≤ w.heap.size; omega) _).setCell (by show w.heap.size ≤ w.heap.size; omega) _

set_option maxHeartbeats 1000000 in
theorem specParsePair_any (a : ByteArray) (w : World) (ha : a.size ≤ 1048576) :
    Calls Try.prog 76 #[.string a] w (Gives (ansPr (cutP a)) w) := by
  have S := fun w => prParse_any a w (by omega)
  generalize cutP a = o at *
  unfold ansPr at *
  generalize pS1 o = x1 at *
  generalize pS2 o = x2 at *
  generalize o.isSome = ok at *
  go_enter Try.func76, Try.ntmps76
  go_wp2_with fail
  have hb0 : Below w.heap.size w (w.alloc (.cells #[.string ⟨#[]⟩, .string ⟨#[]⟩] 59 (0, 0))) := nxAlloc (Below.refl _ _) _
  have hx0 := heap_alloc_at w (.cells #[.string ⟨#[]⟩, .string ⟨#[]⟩] 59 (0, 0))
  generalize (w.alloc (.cells #[.string ⟨#[]⟩, .string ⟨#[]⟩] 59 (0, 0))) = w0 at *
  obtain ⟨hx0a, hx0b, hx0c⟩ := two_facts hx0
  obtain ⟨hx0f, hx0g⟩ := two_frozen hx0
  refine (S _).mono ?_; rintro e w1 ⟨rfl, hb1⟩
  have hbw1 := nx hb0 hb1
  replace hx0 := heap_keep hb1 hx0
  clear hx0a hx0b hx0c hx0f hx0g
  obtain ⟨hx0a, hx0b, hx0c⟩ := two_facts hx0
  obtain ⟨hx0f, hx0g⟩ := two_frozen hx0
  clear hb1 hb0
  go_wp2_with fail
  obtain ⟨q1, q2⟩ := two_cells (set_two (.string x1) (.string x2) hx0)
  refine bodyPost_ret (v := .tuple #[.agg #[.string x1, .string x2], .bool ok]) (by simp [q1, q2, results, Try.results76, go_sem]) rfl ⟨rfl, ?_⟩
  exact (hbw1.setCell (by show w.heap.size ≤ w.heap.size; omega) _).setCell (by show w.heap.size ≤ w.heap.size; omega) _

set_option maxRecDepth 100000 in
set_option maxHeartbeats 2000000 in
theorem implParsePair_any (a : ByteArray) (w : World) (ha : a.size ≤ 1048576) :
    Calls Try.prog 75 #[.string a] w (Gives (ansPr (cutP a)) w) := by
  have C := fun w => strings_cut a w (by omega)
  unfold CutV at C
  unfold cutP
  rcases idxB_spec a 62 with ⟨h1, _⟩ | ⟨k, h1, h2, _, _⟩
  · simp only [h1, if_neg (show ¬ (0:Int) ≤ -1 by decide)] at C ⊢
    show Calls _ _ _ _ (Gives (ansPr none) w)
    clear h1
    go_enter Try.func75, Try.ntmps75
    go_wp2_with fail
    have hb0 : Below w.heap.size w (w.alloc (.cells #[.string ⟨#[]⟩, .string ⟨#[]⟩] 59 (0, 0))) := nxAlloc (Below.refl _ _) _
    have hx0 := heap_alloc_at w (.cells #[.string ⟨#[]⟩, .string ⟨#[]⟩] 59 (0, 0))
    generalize (w.alloc (.cells #[.string ⟨#[]⟩, .string ⟨#[]⟩] 59 (0, 0))) = w0 at *
    obtain ⟨hx0a, hx0b, hx0c⟩ := two_facts hx0
    obtain ⟨hx0f, hx0g⟩ := two_frozen hx0
    refine (C _).mono ?_; rintro e w1 ⟨rfl, hb1⟩
    have hbw1 := nx hb0 hb1
    replace hx0 := heap_keep hb1 hx0
    clear hx0a hx0b hx0c hx0f hx0g
    obtain ⟨hx0a, hx0b, hx0c⟩ := two_facts hx0
    obtain ⟨hx0f, hx0g⟩ := two_frozen hx0
    clear hb1 hb0
    go_wp2_with fail
    have q0 := set_two (.string ⟨#[]⟩) (.string ⟨#[]⟩) hx0
    obtain ⟨q1, q2⟩ := two_cells (heap_keep (nxAlloc (Below.refl _ _) (.cells #[.string a, .string ⟨#[]⟩] 59 (0, 0))) q0)
    refine bodyPost_ret (v := .tuple #[.agg #[.string ⟨#[]⟩, .string ⟨#[]⟩], .bool false]) (by simp [q1, q2, results, Try.results75, go_sem]) rfl ⟨rfl, ?_⟩
    exact nxAlloc ((hbw1.setCell (by show w.heap.size ≤ w.heap.size; omega) _).setCell (by show w.heap.size ≤ w.heap.size; omega) _) _
  · simp only [h1, if_pos (show (0:Int) ≤ (k:Int) by omega)] at C ⊢
    have hx : (a.extract 0 ((k : Int)).toNat).size ≤ 9223372036854775806 := by rw [ByteArray.size_extract]; omega
    have hy : (a.extract (((k : Int)).toNat + 1) a.size).size ≤ 9223372036854775806 := by rw [ByteArray.size_extract]; omega
    clear h1 h2
    generalize a.extract 0 ((k : Int)).toNat = X at *
    generalize a.extract (((k : Int)).toNat + 1) a.size = Y at *
    have hg := fun w => isPair_any X Y w hx hy
    cases h : pairOf X Y with
    | none =>
      rw [h] at hg
      clear h hx hy
      show Calls _ _ _ _ (Gives (ansPr none) w)
      go_enter Try.func75, Try.ntmps75
      go_wp2_with fail
      have hb0 : Below w.heap.size w (w.alloc (.cells #[.string ⟨#[]⟩, .string ⟨#[]⟩] 59 (0, 0))) := nxAlloc (Below.refl _ _) _
      have hx0 := heap_alloc_at w (.cells #[.string ⟨#[]⟩, .string ⟨#[]⟩] 59 (0, 0))
      generalize (w.alloc (.cells #[.string ⟨#[]⟩, .string ⟨#[]⟩] 59 (0, 0))) = w0 at *
      obtain ⟨hx0a, hx0b, hx0c⟩ := two_facts hx0
      obtain ⟨hx0f, hx0g⟩ := two_frozen hx0
      refine (C _).mono ?_; rintro e w1 ⟨rfl, hb1⟩
      have hbw1 := nx hb0 hb1
      replace hx0 := heap_keep hb1 hx0
      clear hx0a hx0b hx0c hx0f hx0g
      obtain ⟨hx0a, hx0b, hx0c⟩ := two_facts hx0
      obtain ⟨hx0f, hx0g⟩ := two_frozen hx0
      clear hb1 hb0
      go_wp2_with fail
      have hbw2 := nxAlloc hbw1 (.cells #[.string X, .string Y] 59 (0, 0))
      replace hx0 := heap_keep (nxAlloc (Below.refl _ _) (.cells #[.string X, .string Y] 59 (0, 0))) hx0
      have hy2 := heap_alloc_at w1 (.cells #[.string X, .string Y] 59 (0, 0))
      generalize w1.alloc (.cells #[.string X, .string Y] 59 (0, 0)) = w2 at *
      clear hbw1
      clear hx0a hx0b hx0c hx0f hx0g
      obtain ⟨hx0a, hx0b, hx0c⟩ := two_facts hx0
      obtain ⟨hx0f, hx0g⟩ := two_frozen hx0
      obtain ⟨hy2a, hy2b, hy2c⟩ := two_facts hy2
      obtain ⟨hy2f, hy2g⟩ := two_frozen hy2
      go_wp2_with fail
      refine (hg _).mono ?_; rintro e w3 ⟨rfl, hb3⟩
      have hbw3 := nx hbw2 hb3
      replace hx0 := heap_keep hb3 hx0
      replace hy2 := heap_keep hb3 hy2
      clear hx0a hx0b hx0c hx0f hx0g
      obtain ⟨hx0a, hx0b, hx0c⟩ := two_facts hx0
      obtain ⟨hx0f, hx0g⟩ := two_frozen hx0
      clear hy2a hy2b hy2c hy2f hy2g
      obtain ⟨hy2a, hy2b, hy2c⟩ := two_facts hy2
      obtain ⟨hy2f, hy2g⟩ := two_frozen hy2
      clear hb3 hbw2
      go_wp2_with fail
      obtain ⟨q1, q2⟩ := two_cells (set_two (.string ⟨#[]⟩) (.string ⟨#[]⟩) hx0)
      refine bodyPost_ret (v := .tuple #[.agg #[.string ⟨#[]⟩, .string ⟨#[]⟩], .bool false]) (by simp [q1, q2, results, Try.results75, go_sem]) rfl ⟨rfl, ?_⟩
      exact (hbw3.setCell (by show w.heap.size ≤ w.heap.size; omega) _).setCell (by show w.heap.size ≤ w.heap.size; omega) _
    | some p =>
      rw [h] at hg
      obtain ⟨rfl, rfl, hok, hc1, hc2⟩ := pairOf_some h
      clear h hx hy hok hc1 hc2
      show Calls _ _ _ _ (Gives (ansPr (some p)) w)
      go_enter Try.func75, Try.ntmps75
      go_wp2_with fail
      have hb0 : Below w.heap.size w (w.alloc (.cells #[.string ⟨#[]⟩, .string ⟨#[]⟩] 59 (0, 0))) := nxAlloc (Below.refl _ _) _
      have hx0 := heap_alloc_at w (.cells #[.string ⟨#[]⟩, .string ⟨#[]⟩] 59 (0, 0))
      generalize (w.alloc (.cells #[.string ⟨#[]⟩, .string ⟨#[]⟩] 59 (0, 0))) = w0 at *
      obtain ⟨hx0a, hx0b, hx0c⟩ := two_facts hx0
      obtain ⟨hx0f, hx0g⟩ := two_frozen hx0
      refine (C _).mono ?_; rintro e w1 ⟨rfl, hb1⟩
      have hbw1 := nx hb0 hb1
      replace hx0 := heap_keep hb1 hx0
      clear hx0a hx0b hx0c hx0f hx0g
      obtain ⟨hx0a, hx0b, hx0c⟩ := two_facts hx0
      obtain ⟨hx0f, hx0g⟩ := two_frozen hx0
      clear hb1 hb0
      go_wp2_with fail
      have hbw2 := nxAlloc hbw1 (.cells #[.string p.1.str, .string p.2.str] 59 (0, 0))
      replace hx0 := heap_keep (nxAlloc (Below.refl _ _) (.cells #[.string p.1.str, .string p.2.str] 59 (0, 0))) hx0
      have hy2 := heap_alloc_at w1 (.cells #[.string p.1.str, .string p.2.str] 59 (0, 0))
      generalize w1.alloc (.cells #[.string p.1.str, .string p.2.str] 59 (0, 0)) = w2 at *
      clear hbw1
      clear hx0a hx0b hx0c hx0f hx0g
      obtain ⟨hx0a, hx0b, hx0c⟩ := two_facts hx0
      obtain ⟨hx0f, hx0g⟩ := two_frozen hx0
      obtain ⟨hy2a, hy2b, hy2c⟩ := two_facts hy2
      obtain ⟨hy2f, hy2g⟩ := two_frozen hy2
      go_wp2_with fail
      refine (hg _).mono ?_; rintro e w3 ⟨rfl, hb3⟩
      have hbw3 := nx hbw2 hb3
      replace hx0 := heap_keep hb3 hx0
      replace hy2 := heap_keep hb3 hy2
      clear hx0a hx0b hx0c hx0f hx0g
      obtain ⟨hx0a, hx0b, hx0c⟩ := two_facts hx0
      obtain ⟨hx0f, hx0g⟩ := two_frozen hx0
      clear hy2a hy2b hy2c hy2f hy2g
      obtain ⟨hy2a, hy2b, hy2c⟩ := two_facts hy2
      obtain ⟨hy2f, hy2g⟩ := two_frozen hy2
      clear hb3 hbw2
      go_wp2_with fail
      obtain ⟨q1, q2⟩ := two_cells (set_two (.string p.1.str) (.string p.2.str) hx0)
      refine bodyPost_ret (v := .tuple #[.agg #[.string p.1.str, .string p.2.str], .bool true]) (by simp [q1, q2, results, Try.results75, go_sem]) rfl ⟨rfl, ?_⟩
      exact (hbw3.setCell (by show w.heap.size ≤ w.heap.size; omega) _).setCell (by show w.heap.size ≤ w.heap.size; omega) _
end Go.Proofs.Yteflpaebckichab
