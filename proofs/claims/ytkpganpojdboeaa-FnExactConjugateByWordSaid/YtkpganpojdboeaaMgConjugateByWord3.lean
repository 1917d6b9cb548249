/- FnExactConjugateByWord: for every input the law returns true and leaves its arguments as they were. No conditions. -/
import Derived.Test.YtkpganpojdboeaaMgConjugateByWord2
import Derived.ProofKit
import Derived.OpenShut
import Derived.ShutString
import Derived.ChangeOld
import Derived.Below
import Derived.Lib.SmallJoins
/-! Cj3 -/
namespace Go.Proofs.Ytkpganpojdboeaa
open Go.RowKit

/-- The conjugate by a word, if none on the way has too many carets. -/
def cbW (r : Pr) : List Int → Option Pr
  | [] => some r
  | x :: xs => if (conP r (ltP x)).1.carets ≤ 8 then cbW (conP r (ltP x)) xs else none
def cbO (a b : ByteArray) (L : List Int) : Option Pr := (pairOf a b).bind fun p => if L.length ≤ 6 then (if isW 2 L = true then cbW (red p) L else none) else none
theorem cbW_drop {L : List Int} {k : Nat} (h : k < L.length) (r : Pr) : cbW r (L.drop k) = if (conP r (ltP (L.getD k 0))).1.carets ≤ 8 then cbW (conP r (ltP (L.getD k 0))) (L.drop (k + 1)) else none := by
  rw [List.drop_eq_getElem_cons h, cbW]
  simp [h]
theorem isW_at {L : List Int} (h : isW 2 L = true) {k : Nat} (hk : k < L.length) : L.getD k 0 ≠ 0 ∧ -2 ≤ L.getD k 0 ∧ L.getD k 0 ≤ 2 := by
  unfold isW at h
  rw [List.all_eq_true] at h
  have hm : L.getD k 0 ∈ L := by rw [List.getD_eq_getElem?_getD, List.getElem?_eq_getElem hk]; exact List.getElem_mem hk
  exact okL_iff.1 (h _ hm)
theorem ltO_yes {x : Int} (_h0 : x ≠ 0) (h1 : -2 ≤ x) (h2 : x ≤ 2) : ltO x = some (ltP x) := by
  unfold ltO
  rw [if_pos (by unfold num; split <;> omega)]
theorem lt_small {x : Int} (h1 : -2 ≤ x) (h2 : x ≤ 2) : (ltP x).1.carets ≤ 3 := by
  have := (ltP_ok x).2
  unfold num at this
  split at this <;> omega

set_option maxRecDepth 100000 in
set_option maxHeartbeats 1000000 in
theorem specConjugateByWord_any (a b : ByteArray) (v : Value) (L : List Int) (b1 : Nat) (w : World) (ha : a.size ≤ 9223372036854775806) (hb : b.size ≤ 9223372036854775806) (hv : CellsI b1 w v L) (_h9 : ∀ c ∈ L, -9223372036854775808 ≤ c ∧ c ≤ 9223372036854775807) :
    Calls Try.prog 40 #[.agg #[.string a, .string b], v] w (Gives (ansPr (cbO a b L)) w) := by
  have hg := fun w => prGood_any a b w ha hb
  have hK := fun w h => wdIs_any v b1 L 1 w h (by decide) (by decide)
  have HV := Lib.hid hv
  obtain ⟨oa, cap, rfl, hcl, hcm, hcc⟩ := hv.form
  unfold maxLen at hcm
  have HC := Lib.hid hcc
  clear hv hcc _h9
  unfold cbO
  cases h : pairOf a b with
  | none =>
    rw [h] at hg
    clear h hK HV HC
    show Calls _ _ _ _ (Gives (ansPr none) w)
    go_enter Try.func40, Try.ntmps40
    go_wp2_with fail
    have hb0 : Below w.heap.size w ((w.alloc (.cells #[.string a, .string b] 25 (0, 0))).alloc (.cells #[.string ⟨#[]⟩, .string ⟨#[]⟩] 25 (0, 0))) := nxAlloc (nxAlloc (Below.refl _ _) _) _
    have hx0 := heap_keep (nxAlloc (Below.refl _ _) (.cells #[.string ⟨#[]⟩, .string ⟨#[]⟩] 25 (0, 0))) (heap_alloc_at w (.cells #[.string a, .string b] 25 (0, 0)))
    have hx1 := heap_alloc_at (w.alloc (.cells #[.string a, .string b] 25 (0, 0))) (.cells #[.string ⟨#[]⟩, .string ⟨#[]⟩] 25 (0, 0))
    generalize ((w.alloc (.cells #[.string a, .string b] 25 (0, 0))).alloc (.cells #[.string ⟨#[]⟩, .string ⟨#[]⟩] 25 (0, 0))) = w0 at *
    have e1 : (w.alloc (.cells #[.string a, .string b] 25 (0, 0))).heap.size = w.heap.size + 1 := by simp
    rw [e1] at hx1
    clear e1
    obtain ⟨hx0a, hx0b, hx0c⟩ := two_facts hx0
    obtain ⟨hx0f, hx0g⟩ := two_frozen hx0
    obtain ⟨hx1a, hx1b, hx1c⟩ := two_facts hx1
    obtain ⟨hx1f, hx1g⟩ := two_frozen hx1
    refine (hg _).mono ?_; rintro e w1 ⟨rfl, hb1⟩
    have hbw1 := nx hb0 hb1
    replace hx0 := heap_keep hb1 hx0
    replace hx1 := heap_keep hb1 hx1
    clear hx0a hx0b hx0c hx0f hx0g
    obtain ⟨hx0a, hx0b, hx0c⟩ := two_facts hx0
    obtain ⟨hx0f, hx0g⟩ := two_frozen hx0
    clear hx1a hx1b hx1c hx1f hx1g
    obtain ⟨hx1a, hx1b, hx1c⟩ := two_facts hx1
    obtain ⟨hx1f, hx1g⟩ := two_frozen hx1
    clear hb1 hb0
    go_wp2_with fail
    obtain ⟨q1, q2⟩ := two_cells (set_two (.string ⟨#[]⟩) (.string ⟨#[]⟩) hx1)
    refine bodyPost_ret (v := .tuple #[.agg #[.string ⟨#[]⟩, .string ⟨#[]⟩], .bool false]) (by simp [q1, q2, results, Try.results40, go_sem]) rfl ⟨rfl, ?_⟩
    exact (hbw1.setCell (by show w.heap.size ≤ w.heap.size + 1; omega) _).setCell (by show w.heap.size ≤ w.heap.size + 1; omega) _
  | some p =>
    rw [h] at hg
    obtain ⟨rfl, rfl, hok, hc1, hc2⟩ := pairOf_some h
    clear h
    show Calls _ _ _ _ (Gives (ansPr (if L.length ≤ 6 then (if isW 2 L = true then cbW (red p) L else none) else none)) w)
    by_cases hl6 : L.length ≤ 6
    rotate_left
    · rw [if_neg hl6]
      have hl6' : (6 : Int) < (L.length : Int) := by omega
      clear hl6 hK HV HC
      go_enter Try.func40, Try.ntmps40
      go_wp2_with fail
      have hb0 : Below w.heap.size w ((w.alloc (.cells #[.string p.1.str, .string p.2.str] 25 (0, 0))).alloc (.cells #[.string ⟨#[]⟩, .string ⟨#[]⟩] 25 (0, 0))) := nxAlloc (nxAlloc (Below.refl _ _) _) _
      have hx0 := heap_keep (nxAlloc (Below.refl _ _) (.cells #[.string ⟨#[]⟩, .string ⟨#[]⟩] 25 (0, 0))) (heap_alloc_at w (.cells #[.string p.1.str, .string p.2.str] 25 (0, 0)))
      have hx1 := heap_alloc_at (w.alloc (.cells #[.string p.1.str, .string p.2.str] 25 (0, 0))) (.cells #[.string ⟨#[]⟩, .string ⟨#[]⟩] 25 (0, 0))
      generalize ((w.alloc (.cells #[.string p.1.str, .string p.2.str] 25 (0, 0))).alloc (.cells #[.string ⟨#[]⟩, .string ⟨#[]⟩] 25 (0, 0))) = w0 at *
      have e1 : (w.alloc (.cells #[.string p.1.str, .string p.2.str] 25 (0, 0))).heap.size = w.heap.size + 1 := by simp
      rw [e1] at hx1
      clear e1
      obtain ⟨hx0a, hx0b, hx0c⟩ := two_facts hx0
      obtain ⟨hx0f, hx0g⟩ := two_frozen hx0
      obtain ⟨hx1a, hx1b, hx1c⟩ := two_facts hx1
      obtain ⟨hx1f, hx1g⟩ := two_frozen hx1
      refine (hg _).mono ?_; rintro e w1 ⟨rfl, hb1⟩
      have hbw1 := nx hb0 hb1
      replace hx0 := heap_keep hb1 hx0
      replace hx1 := heap_keep hb1 hx1
      clear hx0a hx0b hx0c hx0f hx0g
      obtain ⟨hx0a, hx0b, hx0c⟩ := two_facts hx0
      obtain ⟨hx0f, hx0g⟩ := two_frozen hx0
      clear hx1a hx1b hx1c hx1f hx1g
      obtain ⟨hx1a, hx1b, hx1c⟩ := two_facts hx1
      obtain ⟨hx1f, hx1g⟩ := two_frozen hx1
      clear hb1 hb0
      go_wp2_with fail
      obtain ⟨q1, q2⟩ := two_cells (set_two (.string ⟨#[]⟩) (.string ⟨#[]⟩) hx1)
      refine bodyPost_ret (v := .tuple #[.agg #[.string ⟨#[]⟩, .string ⟨#[]⟩], .bool false]) (by simp [q1, q2, results, Try.results40, go_sem]) rfl ⟨rfl, ?_⟩
      exact (hbw1.setCell (by show w.heap.size ≤ w.heap.size + 1; omega) _).setCell (by show w.heap.size ≤ w.heap.size + 1; omega) _
    rw [if_pos hl6]
    have hl6' : ¬ (6 : Int) < (L.length : Int) := by omega
    have hK' : ∀ w, CellsI b1 w (.slice oa L.length cap) L → Calls Try.prog 76 #[.slice oa L.length cap, .int .i64 1] w fun e w' => e = .returned (.bool (isW 2 L)) ∧ w = w' := hK
    clear hK
    cases hw2 : isW 2 L with
    | false =>
      rw [hw2] at hK'
      clear hw2 hl6 HC
      show Calls _ _ _ _ (Gives (ansPr none) w)
      go_enter Try.func40, Try.ntmps40
      go_wp2_with fail
      have hb0 : Below w.heap.size w ((w.alloc (.cells #[.string p.1.str, .string p.2.str] 25 (0, 0))).alloc (.cells #[.string ⟨#[]⟩, .string ⟨#[]⟩] 25 (0, 0))) := nxAlloc (nxAlloc (Below.refl _ _) _) _
      have hx0 := heap_keep (nxAlloc (Below.refl _ _) (.cells #[.string ⟨#[]⟩, .string ⟨#[]⟩] 25 (0, 0))) (heap_alloc_at w (.cells #[.string p.1.str, .string p.2.str] 25 (0, 0)))
      have hx1 := heap_alloc_at (w.alloc (.cells #[.string p.1.str, .string p.2.str] 25 (0, 0))) (.cells #[.string ⟨#[]⟩, .string ⟨#[]⟩] 25 (0, 0))
      generalize ((w.alloc (.cells #[.string p.1.str, .string p.2.str] 25 (0, 0))).alloc (.cells #[.string ⟨#[]⟩, .string ⟨#[]⟩] 25 (0, 0))) = w0 at *
      have e1 : (w.alloc (.cells #[.string p.1.str, .string p.2.str] 25 (0, 0))).heap.size = w.heap.size + 1 := by simp
      rw [e1] at hx1
      clear e1
      obtain ⟨hx0a, hx0b, hx0c⟩ := two_facts hx0
      obtain ⟨hx0f, hx0g⟩ := two_frozen hx0
      obtain ⟨hx1a, hx1b, hx1c⟩ := two_facts hx1
      obtain ⟨hx1f, hx1g⟩ := two_frozen hx1
      refine (hg _).mono ?_; rintro e w1 ⟨rfl, hb1⟩
      have hbw1 := nx hb0 hb1
      replace hx0 := heap_keep hb1 hx0
      replace hx1 := heap_keep hb1 hx1
      clear hx0a hx0b hx0c hx0f hx0g
      obtain ⟨hx0a, hx0b, hx0c⟩ := two_facts hx0
      obtain ⟨hx0f, hx0g⟩ := two_frozen hx0
      clear hx1a hx1b hx1c hx1f hx1g
      obtain ⟨hx1a, hx1b, hx1c⟩ := two_facts hx1
      obtain ⟨hx1f, hx1g⟩ := two_frozen hx1
      clear hb1 hb0
      go_wp2_with fail
      have h9 := hK' _ (CellsI.keep HV.out hbw1)
      refine h9.mono ?_; rintro e wc ⟨rfl, rfl⟩
      go_wp2_with fail
      obtain ⟨q1, q2⟩ := two_cells (set_two (.string ⟨#[]⟩) (.string ⟨#[]⟩) hx1)
      refine bodyPost_ret (v := .tuple #[.agg #[.string ⟨#[]⟩, .string ⟨#[]⟩], .bool false]) (by simp [q1, q2, results, Try.results40, go_sem]) rfl ⟨rfl, ?_⟩
      exact (hbw1.setCell (by show w.heap.size ≤ w.heap.size + 1; omega) _).setCell (by show w.heap.size ≤ w.heap.size + 1; omega) _
    | true =>
      have hAt := fun k hk => isW_at hw2 (k := k) hk
      have HAt := Lib.hid hAt
      rw [hw2] at hK'
      clear hw2 hl6 hAt
      rw [if_pos rfl]
      have hrd := redBy_carets p []
      have hro : okP (red p) := red_ok hok []
      have hrc : (red p).1.carets ≤ 8 := Nat.le_trans hrd.1 hc1
      have hR := fun w => prReduce_nil p w (by omega) (by omega)
      generalize red p = R at *
      clear hrd
      go_enter Try.func40, Try.ntmps40
      go_wp2_with fail
      have hb0 : Below w.heap.size w ((w.alloc (.cells #[.string p.1.str, .string p.2.str] 25 (0, 0))).alloc (.cells #[.string ⟨#[]⟩, .string ⟨#[]⟩] 25 (0, 0))) := nxAlloc (nxAlloc (Below.refl _ _) _) _
      have hx0 := heap_keep (nxAlloc (Below.refl _ _) (.cells #[.string ⟨#[]⟩, .string ⟨#[]⟩] 25 (0, 0))) (heap_alloc_at w (.cells #[.string p.1.str, .string p.2.str] 25 (0, 0)))
      have hx1 := heap_alloc_at (w.alloc (.cells #[.string p.1.str, .string p.2.str] 25 (0, 0))) (.cells #[.string ⟨#[]⟩, .string ⟨#[]⟩] 25 (0, 0))
      generalize ((w.alloc (.cells #[.string p.1.str, .string p.2.str] 25 (0, 0))).alloc (.cells #[.string ⟨#[]⟩, .string ⟨#[]⟩] 25 (0, 0))) = w0 at *
      have e1 : (w.alloc (.cells #[.string p.1.str, .string p.2.str] 25 (0, 0))).heap.size = w.heap.size + 1 := by simp
      rw [e1] at hx1
      clear e1
      obtain ⟨hx0a, hx0b, hx0c⟩ := two_facts hx0
      obtain ⟨hx0f, hx0g⟩ := two_frozen hx0
      obtain ⟨hx1a, hx1b, hx1c⟩ := two_facts hx1
      obtain ⟨hx1f, hx1g⟩ := two_frozen hx1
      refine (hg _).mono ?_; rintro e w1 ⟨rfl, hb1⟩
      have hbw1 := nx hb0 hb1
      replace hx0 := heap_keep hb1 hx0
      replace hx1 := heap_keep hb1 hx1
      clear hx0a hx0b hx0c hx0f hx0g
      obtain ⟨hx0a, hx0b, hx0c⟩ := two_facts hx0
      obtain ⟨hx0f, hx0g⟩ := two_frozen hx0
      clear hx1a hx1b hx1c hx1f hx1g
      obtain ⟨hx1a, hx1b, hx1c⟩ := two_facts hx1
      obtain ⟨hx1f, hx1g⟩ := two_frozen hx1
      clear hb1 hb0
      go_wp2_with fail
      have h9 := hK' _ (CellsI.keep HV.out hbw1)
      refine h9.mono ?_; rintro e wc ⟨rfl, rfl⟩
      go_wp2_with fail
      refine (hR _).mono ?_; rintro e w2 ⟨rfl, hb2⟩
      have hbw2 := nx hbw1 hb2
      replace hx0 := heap_keep hb2 hx0
      replace hx1 := heap_keep hb2 hx1
      clear hx0a hx0b hx0c hx0f hx0g
      obtain ⟨hx0a, hx0b, hx0c⟩ := two_facts hx0
      obtain ⟨hx0f, hx0g⟩ := two_frozen hx0
      clear hx1a hx1b hx1c hx1f hx1g
      obtain ⟨hx1a, hx1b, hx1c⟩ := two_facts hx1
      obtain ⟨hx1f, hx1g⟩ := two_frozen hx1
      clear hb2 hbw1
      go_wp2_with fail
      have hs0 := set_two (.string R.1.str) (.string R.2.str) hx0
      have hs1 := (Below.heap_setCell (w2.setCell ⟨w.heap.size, 0, none⟩ (.string R.1.str)) ⟨w.heap.size, 1, none⟩ (.string R.2.str) _ (by show ¬ _ = w.heap.size; omega)).trans ((Below.heap_setCell w2 ⟨w.heap.size, 0, none⟩ (.string R.1.str) _ (by show ¬ _ = w.heap.size; omega)).trans hx1)
      have hbs := (hbw2.setCell (p := ⟨w.heap.size, 0, none⟩) (Nat.le_refl _) (.string R.1.str)).setCell (p := ⟨w.heap.size, 1, none⟩) (Nat.le_refl _) (.string R.2.str)
      generalize (w2.setCell ⟨w.heap.size, 0, none⟩ (.string R.1.str)).setCell ⟨w.heap.size, 1, none⟩ (.string R.2.str) = ws at *
      clear hx0a hx0b hx0c hx0f hx0g hx1a hx1b hx1c hx1f hx1g hx0 hx1 hbw2
      have hx0 := hs0
      clear hs0
      have hx1 := hs1
      clear hs1
      obtain ⟨hx0a, hx0b, hx0c⟩ := two_facts hx0
      obtain ⟨hx0f, hx0g⟩ := two_frozen hx0
      obtain ⟨hx1a, hx1b, hx1c⟩ := two_facts hx1
      obtain ⟨hx1f, hx1g⟩ := two_frozen hx1
      go_loopw [26] (fun i wr => ∃ (k : Nat) (r : Pr), k ≤ L.length ∧ i = .int .i64 k ∧ wr.heap[w.heap.size]? = some (.cells #[.string r.1.str, .string r.2.str] 25 (0, 0)) ∧ wr.heap[w.heap.size + 1]? = some (.cells #[.string ⟨#[]⟩, .string ⟨#[]⟩] 25 (0, 0)) ∧ Below w.heap.size w wr ∧ okP r ∧ r.1.carets ≤ 8 ∧ Hid (cbW r (L.drop k) = cbW R L)) (fun i _ => L.length - (intOf i).toNat)
      case atStart => exact ⟨0, R, Nat.zero_le _, rfl, hx0, hx1, hbs, hro, hrc, rfl⟩
      case round =>
        clear hx0 hx1 hx0a hx0b hx0c hx0f hx0g hx1a hx1b hx1c hx1f hx1g hbs hro hrc
        obtain ⟨k, r, hk, rfl, hx0, hx1, hbw, hro, hrc, hcb⟩ := hrel
        obtain ⟨hx0a, hx0b, hx0c⟩ := two_facts hx0
        obtain ⟨hx0f, hx0g⟩ := two_frozen hx0
        obtain ⟨hx1a, hx1b, hx1c⟩ := two_facts hx1
        obtain ⟨hx1f, hx1g⟩ := two_frozen hx1
        by_cases hlt : k < L.length
        · have hlt' : (k : Int) < (L.length : Int) := by omega
          obtain ⟨g, rfl, _, hgl, c0⟩ := HC.out k hlt
          have c1 := (hbw.cell (p := ⟨g, k, none⟩) hgl).trans c0
          have hkl : k < L.length := hlt
          obtain ⟨hx9, hxl, hxu⟩ := HAt.out k hkl
          have hcb2 := hcb.out
          rw [cbW_drop hkl] at hcb2
          clear c0 hcb hkl
          generalize L.getD k 0 = x at *
          have hlo := (ltP_ok x).1
          have hls := lt_small hxl hxu
          have hmo := conP_ok hro hlo
          have hmc := conP_carets hro hlo
          have D := fun w => wdLetter_any x w hx9 (by omega) (by omega)
          have T := fun w => cjBy_any r (ltP x) w hro hlo (by omega)
          have C := fun w => carets_str (conP r (ltP x)).1 w (by omega)
          generalize ltP x = lx at *
          generalize conP r lx = M at *
          have HB2 := Lib.hid hcb2
          clear hcb2 hmc hls hlo
          go_wp2_with fail
          refine wp_region_clsT 4 (by kernel_rfl) (by kernel_rfl) ?_
          simp only [List.take_succ_cons, List.take_zero, List.drop_succ_cons, List.drop_zero]
          repeat (
            refine wpQuiet_step (fun K hK => ?_)
            go_simp
            first
              | (refine hK _ ?_; clear hK K)
              | (refine ⟨_, fun _ _ => rfl, hK _ ?_⟩; clear hK K)
              | (apply Exists.intro
                 refine ⟨fun w' hw' => ?_, hK _ ?_⟩
                 · first
                     | (go_at_call 77; exact hw'.call (D _))
                     | (go_at_call 45; exact hw'.call (T _))
                     | (rw [hw'.cell hx0c hx0a]; dsimp only [Result.andThen]; rw [hw'.cell hx0c hx0b]; exact ⟨rfl, rfl⟩)
                 clear hK K))
          refine wpQuiet_nil ?_
          intro w' hw'
          have hbwf := nx hbw hw'
          replace hx0 := heap_keep hw' hx0
          replace hx1 := heap_keep hw' hx1
          clear hw' hbw
          clear hx0a hx0b hx0c hx0f hx0g
          obtain ⟨hx0a, hx0b, hx0c⟩ := two_facts hx0
          obtain ⟨hx0f, hx0g⟩ := two_frozen hx0
          clear hx1a hx1b hx1c hx1f hx1g
          obtain ⟨hx1a, hx1b, hx1c⟩ := two_facts hx1
          obtain ⟨hx1f, hx1g⟩ := two_frozen hx1
          generalize w' = w201 at *
          go_wp2_with fail
          have hs0 := set_two (.string M.1.str) (.string M.2.str) hx0
          have hs1 := (Below.heap_setCell (w201.setCell ⟨w.heap.size, 0, none⟩ (.string M.1.str)) ⟨w.heap.size, 1, none⟩ (.string M.2.str) _ (by show ¬ _ = w.heap.size; omega)).trans ((Below.heap_setCell w201 ⟨w.heap.size, 0, none⟩ (.string M.1.str) _ (by show ¬ _ = w.heap.size; omega)).trans hx1)
          have hbs := (hbwf.setCell (p := ⟨w.heap.size, 0, none⟩) (Nat.le_refl _) (.string M.1.str)).setCell (p := ⟨w.heap.size, 1, none⟩) (Nat.le_refl _) (.string M.2.str)
          generalize (w201.setCell ⟨w.heap.size, 0, none⟩ (.string M.1.str)).setCell ⟨w.heap.size, 1, none⟩ (.string M.2.str) = wt at *
          clear hx0a hx0b hx0c hx0f hx0g hx1a hx1b hx1c hx1f hx1g hx0 hx1 hbwf
          have hx0 := hs0
          clear hs0
          have hx1 := hs1
          clear hs1
          obtain ⟨hx0a, hx0b, hx0c⟩ := two_facts hx0
          obtain ⟨hx0f, hx0g⟩ := two_frozen hx0
          obtain ⟨hx1a, hx1b, hx1c⟩ := two_facts hx1
          obtain ⟨hx1f, hx1g⟩ := two_frozen hx1
          refine (C _).mono ?_; rintro e wc ⟨rfl, rfl⟩
          by_cases h8 : M.1.carets ≤ 8
          · have h8' : ¬ (8 : Int) < (M.1.carets : Int) := by omega
            have hb3 := HB2.out
            rw [if_pos h8] at hb3
            have HB3 := Lib.hid hb3
            clear hb3 HB2
            have h8m : M.1.carets ≤ 8 := h8
            clear h8
            go_wp2_with fail
            go_roundw
            case rel => exact ⟨k + 1, M, by omega, by go_num, hx0, hx1, hbs, hmo, h8m, HB3.out⟩
            case measure => simp [intOf]; omega
          · have h8' : (8 : Int) < (M.1.carets : Int) := by omega
            have hb3 := HB2.out
            rw [if_neg h8] at hb3
            have HB3 := Lib.hid hb3
            clear hb3 HB2 h8
            go_wp2_with fail
            obtain ⟨q1, q2⟩ := two_cells (set_two (.string ⟨#[]⟩) (.string ⟨#[]⟩) hx1)
            refine bodyPost_ret (v := .tuple #[.agg #[.string ⟨#[]⟩, .string ⟨#[]⟩], .bool false]) (by simp [q1, q2, results, Try.results40, go_sem]) rfl ⟨by rw [← HB3.out]; rfl, ?_⟩
            exact (hbs.setCell (by show w.heap.size ≤ w.heap.size + 1; omega) _).setCell (by show w.heap.size ≤ w.heap.size + 1; omega) _
        · obtain rfl : k = L.length := by omega
          have hcb2 := hcb.out
          rw [List.drop_of_length_le (Nat.le_refl _)] at hcb2
          have HB2 := Lib.hid hcb2
          clear hcb hcb2
          go_wp2_with fail
          obtain ⟨q1, q2⟩ := two_cells (set_two (.string r.1.str) (.string r.2.str) hx1)
          refine bodyPost_ret (v := .tuple #[.agg #[.string r.1.str, .string r.2.str], .bool true]) (by simp [q1, q2, results, Try.results40, go_sem]) rfl ⟨by rw [← HB2.out]; rfl, ?_⟩
          exact (hbw.setCell (by show w.heap.size ≤ w.heap.size + 1; omega) _).setCell (by show w.heap.size ≤ w.heap.size + 1; omega) _

set_option maxRecDepth 100000 in
set_option maxHeartbeats 1000000 in
theorem implConjugateByWord_any (a b : ByteArray) (v : Value) (L : List Int) (b1 : Nat) (w : World) (ha : a.size ≤ 9223372036854775806) (hb : b.size ≤ 9223372036854775806) (hv : CellsI b1 w v L) (_h9 : ∀ c ∈ L, -9223372036854775808 ≤ c ∧ c ≤ 9223372036854775807) :
    Calls Try.prog 42 #[.agg #[.string a, .string b], v] w (Gives (ansPr (cbO a b L)) w) := by
  have hg := fun w => implReducePair_any a b w ha hb
  have hK := fun w h => isTwoWord_any v b1 L w h
  have HV := Lib.hid hv
  obtain ⟨oa, cap, rfl, hcl, hcm, hcc⟩ := hv.form
  unfold maxLen at hcm
  have HC := Lib.hid hcc
  clear hv hcc _h9
  unfold cbO
  cases h : pairOf a b with
  | none =>
    rw [h] at hg
    clear h hK HV HC
    have hg' : ∀ w, Calls Try.prog 62 #[.agg #[.string a, .string b]] w (Gives (.tuple #[.agg #[.string ⟨#[]⟩, .string ⟨#[]⟩], .bool false]) w) := hg
    clear hg
    show Calls _ _ _ _ (Gives (ansPr none) w)
    go_enter Try.func42, Try.ntmps42
    go_wp2_with fail
    have hb0 : Below w.heap.size w ((w.alloc (.cells #[.string a, .string b] 25 (0, 0))).alloc (.cells #[.string ⟨#[]⟩, .string ⟨#[]⟩] 25 (0, 0))) := nxAlloc (nxAlloc (Below.refl _ _) _) _
    have hx0 := heap_keep (nxAlloc (Below.refl _ _) (.cells #[.string ⟨#[]⟩, .string ⟨#[]⟩] 25 (0, 0))) (heap_alloc_at w (.cells #[.string a, .string b] 25 (0, 0)))
    have hx1 := heap_alloc_at (w.alloc (.cells #[.string a, .string b] 25 (0, 0))) (.cells #[.string ⟨#[]⟩, .string ⟨#[]⟩] 25 (0, 0))
    generalize ((w.alloc (.cells #[.string a, .string b] 25 (0, 0))).alloc (.cells #[.string ⟨#[]⟩, .string ⟨#[]⟩] 25 (0, 0))) = w0 at *
    have e1 : (w.alloc (.cells #[.string a, .string b] 25 (0, 0))).heap.size = w.heap.size + 1 := by simp
    rw [e1] at hx1
    clear e1
    obtain ⟨hx0a, hx0b, hx0c⟩ := two_facts hx0
    obtain ⟨hx0f, hx0g⟩ := two_frozen hx0
    obtain ⟨hx1a, hx1b, hx1c⟩ := two_facts hx1
    obtain ⟨hx1f, hx1g⟩ := two_frozen hx1
    refine (hg' _).mono ?_; rintro e w1 ⟨rfl, hb1⟩
    have hbw1 := nx hb0 hb1
    replace hx0 := heap_keep hb1 hx0
    replace hx1 := heap_keep hb1 hx1
    clear hx0a hx0b hx0c hx0f hx0g
    obtain ⟨hx0a, hx0b, hx0c⟩ := two_facts hx0
    obtain ⟨hx0f, hx0g⟩ := two_frozen hx0
    clear hx1a hx1b hx1c hx1f hx1g
    obtain ⟨hx1a, hx1b, hx1c⟩ := two_facts hx1
    obtain ⟨hx1f, hx1g⟩ := two_frozen hx1
    clear hb1 hb0
    go_wp2_with fail
    have hs0 := set_two (.string ⟨#[]⟩) (.string ⟨#[]⟩) hx0
    have hs1 := (Below.heap_setCell (w1.setCell ⟨w.heap.size, 0, none⟩ (.string ⟨#[]⟩)) ⟨w.heap.size, 1, none⟩ (.string ⟨#[]⟩) _ (by show ¬ _ = w.heap.size; omega)).trans ((Below.heap_setCell w1 ⟨w.heap.size, 0, none⟩ (.string ⟨#[]⟩) _ (by show ¬ _ = w.heap.size; omega)).trans hx1)
    have hbs := (hbw1.setCell (p := ⟨w.heap.size, 0, none⟩) (Nat.le_refl _) (.string ⟨#[]⟩)).setCell (p := ⟨w.heap.size, 1, none⟩) (Nat.le_refl _) (.string ⟨#[]⟩)
    generalize (w1.setCell ⟨w.heap.size, 0, none⟩ (.string ⟨#[]⟩)).setCell ⟨w.heap.size, 1, none⟩ (.string ⟨#[]⟩) = ws at *
    clear hx0a hx0b hx0c hx0f hx0g hx1a hx1b hx1c hx1f hx1g hx0 hx1 hbw1
    have hx0 := hs0
    clear hs0
    have hx1 := hs1
    clear hs1
    obtain ⟨hx0a, hx0b, hx0c⟩ := two_facts hx0
    obtain ⟨hx0f, hx0g⟩ := two_frozen hx0
    obtain ⟨hx1a, hx1b, hx1c⟩ := two_facts hx1
    obtain ⟨hx1f, hx1g⟩ := two_frozen hx1
    go_wp2_with fail
    obtain ⟨q1, q2⟩ := two_cells (set_two (.string ⟨#[]⟩) (.string ⟨#[]⟩) hx1)
    refine bodyPost_ret (v := .tuple #[.agg #[.string ⟨#[]⟩, .string ⟨#[]⟩], .bool false]) (by simp [q1, q2, results, Try.results42, go_sem]) rfl ⟨rfl, ?_⟩
    exact (hbs.setCell (by show w.heap.size ≤ w.heap.size + 1; omega) _).setCell (by show w.heap.size ≤ w.heap.size + 1; omega) _
  | some p =>
    rw [h] at hg
    have hg' : ∀ w, Calls Try.prog 62 #[.agg #[.string a, .string b]] w (Gives (.tuple #[.agg #[.string (red p).1.str, .string (red p).2.str], .bool true]) w) := hg
    obtain ⟨rfl, rfl, hok, hc1, hc2⟩ := pairOf_some h
    clear h hg
    show Calls _ _ _ _ (Gives (ansPr (if L.length ≤ 6 then (if isW 2 L = true then cbW (red p) L else none) else none)) w)
    have hrd := redBy_carets p []
    have hro : okP (red p) := red_ok hok []
    have hrc : (red p).1.carets ≤ 8 := Nat.le_trans hrd.1 hc1
    generalize red p = R at *
    clear hrd
    cases hw2 : isW 2 L with
    | false =>
      have ht : twoB L = false := by unfold twoB; rw [hw2, Bool.and_false]
      rw [ht] at hK
      clear hw2 ht HC
      have e : (if L.length ≤ 6 then (if false = true then cbW R L else none) else none) = none := by split <;> rfl
      rw [e]
      clear e
      go_enter Try.func42, Try.ntmps42
      go_wp2_with fail
      have hb0 : Below w.heap.size w ((w.alloc (.cells #[.string p.1.str, .string p.2.str] 25 (0, 0))).alloc (.cells #[.string ⟨#[]⟩, .string ⟨#[]⟩] 25 (0, 0))) := nxAlloc (nxAlloc (Below.refl _ _) _) _
      have hx0 := heap_keep (nxAlloc (Below.refl _ _) (.cells #[.string ⟨#[]⟩, .string ⟨#[]⟩] 25 (0, 0))) (heap_alloc_at w (.cells #[.string p.1.str, .string p.2.str] 25 (0, 0)))
      have hx1 := heap_alloc_at (w.alloc (.cells #[.string p.1.str, .string p.2.str] 25 (0, 0))) (.cells #[.string ⟨#[]⟩, .string ⟨#[]⟩] 25 (0, 0))
      generalize ((w.alloc (.cells #[.string p.1.str, .string p.2.str] 25 (0, 0))).alloc (.cells #[.string ⟨#[]⟩, .string ⟨#[]⟩] 25 (0, 0))) = w0 at *
      have e1 : (w.alloc (.cells #[.string p.1.str, .string p.2.str] 25 (0, 0))).heap.size = w.heap.size + 1 := by simp
      rw [e1] at hx1
      clear e1
      obtain ⟨hx0a, hx0b, hx0c⟩ := two_facts hx0
      obtain ⟨hx0f, hx0g⟩ := two_frozen hx0
      obtain ⟨hx1a, hx1b, hx1c⟩ := two_facts hx1
      obtain ⟨hx1f, hx1g⟩ := two_frozen hx1
      refine (hg' _).mono ?_; rintro e w1 ⟨rfl, hb1⟩
      have hbw1 := nx hb0 hb1
      replace hx0 := heap_keep hb1 hx0
      replace hx1 := heap_keep hb1 hx1
      clear hx0a hx0b hx0c hx0f hx0g
      obtain ⟨hx0a, hx0b, hx0c⟩ := two_facts hx0
      obtain ⟨hx0f, hx0g⟩ := two_frozen hx0
      clear hx1a hx1b hx1c hx1f hx1g
      obtain ⟨hx1a, hx1b, hx1c⟩ := two_facts hx1
      obtain ⟨hx1f, hx1g⟩ := two_frozen hx1
      clear hb1 hb0
      go_wp2_with fail
      have hs0 := set_two (.string R.1.str) (.string R.2.str) hx0
      have hs1 := (Below.heap_setCell (w1.setCell ⟨w.heap.size, 0, none⟩ (.string R.1.str)) ⟨w.heap.size, 1, none⟩ (.string R.2.str) _ (by show ¬ _ = w.heap.size; omega)).trans ((Below.heap_setCell w1 ⟨w.heap.size, 0, none⟩ (.string R.1.str) _ (by show ¬ _ = w.heap.size; omega)).trans hx1)
      have hbs := (hbw1.setCell (p := ⟨w.heap.size, 0, none⟩) (Nat.le_refl _) (.string R.1.str)).setCell (p := ⟨w.heap.size, 1, none⟩) (Nat.le_refl _) (.string R.2.str)
      generalize (w1.setCell ⟨w.heap.size, 0, none⟩ (.string R.1.str)).setCell ⟨w.heap.size, 1, none⟩ (.string R.2.str) = ws at *
      clear hx0a hx0b hx0c hx0f hx0g hx1a hx1b hx1c hx1f hx1g hx0 hx1 hbw1
      have hx0 := hs0
      clear hs0
      have hx1 := hs1
      clear hs1
      obtain ⟨hx0a, hx0b, hx0c⟩ := two_facts hx0
      obtain ⟨hx0f, hx0g⟩ := two_frozen hx0
      obtain ⟨hx1a, hx1b, hx1c⟩ := two_facts hx1
      obtain ⟨hx1f, hx1g⟩ := two_frozen hx1
      have h9 := hK _ (CellsI.keep HV.out hbs)
      refine (h9).mono ?_; rintro e w2 ⟨rfl, hb2⟩
      have hbw2 := nx hbs hb2
      replace hx0 := heap_keep hb2 hx0
      replace hx1 := heap_keep hb2 hx1
      clear hx0a hx0b hx0c hx0f hx0g
      obtain ⟨hx0a, hx0b, hx0c⟩ := two_facts hx0
      obtain ⟨hx0f, hx0g⟩ := two_frozen hx0
      clear hx1a hx1b hx1c hx1f hx1g
      obtain ⟨hx1a, hx1b, hx1c⟩ := two_facts hx1
      obtain ⟨hx1f, hx1g⟩ := two_frozen hx1
      clear hb2 hbs
      go_wp2_with fail
      obtain ⟨q1, q2⟩ := two_cells (set_two (.string ⟨#[]⟩) (.string ⟨#[]⟩) hx1)
      refine bodyPost_ret (v := .tuple #[.agg #[.string ⟨#[]⟩, .string ⟨#[]⟩], .bool false]) (by simp [q1, q2, results, Try.results42, go_sem]) rfl ⟨rfl, ?_⟩
      exact (hbw2.setCell (by show w.heap.size ≤ w.heap.size + 1; omega) _).setCell (by show w.heap.size ≤ w.heap.size + 1; omega) _
    | true =>
      by_cases hl20 : L.length ≤ 20
      rotate_left
      · have ht : twoB L = false := by unfold twoB; rw [decide_eq_false hl20, Bool.false_and]
        rw [ht] at hK
        rw [if_neg (by omega)]
        clear hw2 ht HC hl20
        go_enter Try.func42, Try.ntmps42
        go_wp2_with fail
        have hb0 : Below w.heap.size w ((w.alloc (.cells #[.string p.1.str, .string p.2.str] 25 (0, 0))).alloc (.cells #[.string ⟨#[]⟩, .string ⟨#[]⟩] 25 (0, 0))) := nxAlloc (nxAlloc (Below.refl _ _) _) _
        have hx0 := heap_keep (nxAlloc (Below.refl _ _) (.cells #[.string ⟨#[]⟩, .string ⟨#[]⟩] 25 (0, 0))) (heap_alloc_at w (.cells #[.string p.1.str, .string p.2.str] 25 (0, 0)))
        have hx1 := heap_alloc_at (w.alloc (.cells #[.string p.1.str, .string p.2.str] 25 (0, 0))) (.cells #[.string ⟨#[]⟩, .string ⟨#[]⟩] 25 (0, 0))
        generalize ((w.alloc (.cells #[.string p.1.str, .string p.2.str] 25 (0, 0))).alloc (.cells #[.string ⟨#[]⟩, .string ⟨#[]⟩] 25 (0, 0))) = w0 at *
        have e1 : (w.alloc (.cells #[.string p.1.str, .string p.2.str] 25 (0, 0))).heap.size = w.heap.size + 1 := by simp
        rw [e1] at hx1
        clear e1
        obtain ⟨hx0a, hx0b, hx0c⟩ := two_facts hx0
        obtain ⟨hx0f, hx0g⟩ := two_frozen hx0
        obtain ⟨hx1a, hx1b, hx1c⟩ := two_facts hx1
        obtain ⟨hx1f, hx1g⟩ := two_frozen hx1
        refine (hg' _).mono ?_; rintro e w1 ⟨rfl, hb1⟩
        have hbw1 := nx hb0 hb1
        replace hx0 := heap_keep hb1 hx0
        replace hx1 := heap_keep hb1 hx1
        clear hx0a hx0b hx0c hx0f hx0g
        obtain ⟨hx0a, hx0b, hx0c⟩ := two_facts hx0
        obtain ⟨hx0f, hx0g⟩ := two_frozen hx0
        clear hx1a hx1b hx1c hx1f hx1g
        obtain ⟨hx1a, hx1b, hx1c⟩ := two_facts hx1
        obtain ⟨hx1f, hx1g⟩ := two_frozen hx1
        clear hb1 hb0
        go_wp2_with fail
        have hs0 := set_two (.string R.1.str) (.string R.2.str) hx0
        have hs1 := (Below.heap_setCell (w1.setCell ⟨w.heap.size, 0, none⟩ (.string R.1.str)) ⟨w.heap.size, 1, none⟩ (.string R.2.str) _ (by show ¬ _ = w.heap.size; omega)).trans ((Below.heap_setCell w1 ⟨w.heap.size, 0, none⟩ (.string R.1.str) _ (by show ¬ _ = w.heap.size; omega)).trans hx1)
        have hbs := (hbw1.setCell (p := ⟨w.heap.size, 0, none⟩) (Nat.le_refl _) (.string R.1.str)).setCell (p := ⟨w.heap.size, 1, none⟩) (Nat.le_refl _) (.string R.2.str)
        generalize (w1.setCell ⟨w.heap.size, 0, none⟩ (.string R.1.str)).setCell ⟨w.heap.size, 1, none⟩ (.string R.2.str) = ws at *
        clear hx0a hx0b hx0c hx0f hx0g hx1a hx1b hx1c hx1f hx1g hx0 hx1 hbw1
        have hx0 := hs0
        clear hs0
        have hx1 := hs1
        clear hs1
        obtain ⟨hx0a, hx0b, hx0c⟩ := two_facts hx0
        obtain ⟨hx0f, hx0g⟩ := two_frozen hx0
        obtain ⟨hx1a, hx1b, hx1c⟩ := two_facts hx1
        obtain ⟨hx1f, hx1g⟩ := two_frozen hx1
        have h9 := hK _ (CellsI.keep HV.out hbs)
        refine (h9).mono ?_; rintro e w2 ⟨rfl, hb2⟩
        have hbw2 := nx hbs hb2
        replace hx0 := heap_keep hb2 hx0
        replace hx1 := heap_keep hb2 hx1
        clear hx0a hx0b hx0c hx0f hx0g
        obtain ⟨hx0a, hx0b, hx0c⟩ := two_facts hx0
        obtain ⟨hx0f, hx0g⟩ := two_frozen hx0
        clear hx1a hx1b hx1c hx1f hx1g
        obtain ⟨hx1a, hx1b, hx1c⟩ := two_facts hx1
        obtain ⟨hx1f, hx1g⟩ := two_frozen hx1
        clear hb2 hbs
        go_wp2_with fail
        obtain ⟨q1, q2⟩ := two_cells (set_two (.string ⟨#[]⟩) (.string ⟨#[]⟩) hx1)
        refine bodyPost_ret (v := .tuple #[.agg #[.string ⟨#[]⟩, .string ⟨#[]⟩], .bool false]) (by simp [q1, q2, results, Try.results42, go_sem]) rfl ⟨rfl, ?_⟩
        exact (hbw2.setCell (by show w.heap.size ≤ w.heap.size + 1; omega) _).setCell (by show w.heap.size ≤ w.heap.size + 1; omega) _
      have ht : twoB L = true := by unfold twoB; rw [decide_eq_true hl20, hw2]; rfl
      rw [ht] at hK
      by_cases hl6 : L.length ≤ 6
      rotate_left
      · rw [if_neg hl6]
        have hl6' : (6 : Int) < (L.length : Int) := by omega
        clear hl6 hw2 ht HC hl20
        go_enter Try.func42, Try.ntmps42
        go_wp2_with fail
        have hb0 : Below w.heap.size w ((w.alloc (.cells #[.string p.1.str, .string p.2.str] 25 (0, 0))).alloc (.cells #[.string ⟨#[]⟩, .string ⟨#[]⟩] 25 (0, 0))) := nxAlloc (nxAlloc (Below.refl _ _) _) _
        have hx0 := heap_keep (nxAlloc (Below.refl _ _) (.cells #[.string ⟨#[]⟩, .string ⟨#[]⟩] 25 (0, 0))) (heap_alloc_at w (.cells #[.string p.1.str, .string p.2.str] 25 (0, 0)))
        have hx1 := heap_alloc_at (w.alloc (.cells #[.string p.1.str, .string p.2.str] 25 (0, 0))) (.cells #[.string ⟨#[]⟩, .string ⟨#[]⟩] 25 (0, 0))
        generalize ((w.alloc (.cells #[.string p.1.str, .string p.2.str] 25 (0, 0))).alloc (.cells #[.string ⟨#[]⟩, .string ⟨#[]⟩] 25 (0, 0))) = w0 at *
        have e1 : (w.alloc (.cells #[.string p.1.str, .string p.2.str] 25 (0, 0))).heap.size = w.heap.size + 1 := by simp
        rw [e1] at hx1
        clear e1
        obtain ⟨hx0a, hx0b, hx0c⟩ := two_facts hx0
        obtain ⟨hx0f, hx0g⟩ := two_frozen hx0
        obtain ⟨hx1a, hx1b, hx1c⟩ := two_facts hx1
        obtain ⟨hx1f, hx1g⟩ := two_frozen hx1
        refine (hg' _).mono ?_; rintro e w1 ⟨rfl, hb1⟩
        have hbw1 := nx hb0 hb1
        replace hx0 := heap_keep hb1 hx0
        replace hx1 := heap_keep hb1 hx1
        clear hx0a hx0b hx0c hx0f hx0g
        obtain ⟨hx0a, hx0b, hx0c⟩ := two_facts hx0
        obtain ⟨hx0f, hx0g⟩ := two_frozen hx0
        clear hx1a hx1b hx1c hx1f hx1g
        obtain ⟨hx1a, hx1b, hx1c⟩ := two_facts hx1
        obtain ⟨hx1f, hx1g⟩ := two_frozen hx1
        clear hb1 hb0
        go_wp2_with fail
        have hs0 := set_two (.string R.1.str) (.string R.2.str) hx0
        have hs1 := (Below.heap_setCell (w1.setCell ⟨w.heap.size, 0, none⟩ (.string R.1.str)) ⟨w.heap.size, 1, none⟩ (.string R.2.str) _ (by show ¬ _ = w.heap.size; omega)).trans ((Below.heap_setCell w1 ⟨w.heap.size, 0, none⟩ (.string R.1.str) _ (by show ¬ _ = w.heap.size; omega)).trans hx1)
        have hbs := (hbw1.setCell (p := ⟨w.heap.size, 0, none⟩) (Nat.le_refl _) (.string R.1.str)).setCell (p := ⟨w.heap.size, 1, none⟩) (Nat.le_refl _) (.string R.2.str)
        generalize (w1.setCell ⟨w.heap.size, 0, none⟩ (.string R.1.str)).setCell ⟨w.heap.size, 1, none⟩ (.string R.2.str) = ws at *
        clear hx0a hx0b hx0c hx0f hx0g hx1a hx1b hx1c hx1f hx1g hx0 hx1 hbw1
        have hx0 := hs0
        clear hs0
        have hx1 := hs1
        clear hs1
        obtain ⟨hx0a, hx0b, hx0c⟩ := two_facts hx0
        obtain ⟨hx0f, hx0g⟩ := two_frozen hx0
        obtain ⟨hx1a, hx1b, hx1c⟩ := two_facts hx1
        obtain ⟨hx1f, hx1g⟩ := two_frozen hx1
        have h9 := hK _ (CellsI.keep HV.out hbs)
        refine (h9).mono ?_; rintro e w2 ⟨rfl, hb2⟩
        have hbw2 := nx hbs hb2
        replace hx0 := heap_keep hb2 hx0
        replace hx1 := heap_keep hb2 hx1
        clear hx0a hx0b hx0c hx0f hx0g
        obtain ⟨hx0a, hx0b, hx0c⟩ := two_facts hx0
        obtain ⟨hx0f, hx0g⟩ := two_frozen hx0
        clear hx1a hx1b hx1c hx1f hx1g
        obtain ⟨hx1a, hx1b, hx1c⟩ := two_facts hx1
        obtain ⟨hx1f, hx1g⟩ := two_frozen hx1
        clear hb2 hbs
        go_wp2_with fail
        obtain ⟨q1, q2⟩ := two_cells (set_two (.string ⟨#[]⟩) (.string ⟨#[]⟩) hx1)
        refine bodyPost_ret (v := .tuple #[.agg #[.string ⟨#[]⟩, .string ⟨#[]⟩], .bool false]) (by simp [q1, q2, results, Try.results42, go_sem]) rfl ⟨rfl, ?_⟩
        exact (hbw2.setCell (by show w.heap.size ≤ w.heap.size + 1; omega) _).setCell (by show w.heap.size ≤ w.heap.size + 1; omega) _
      rw [if_pos hl6, if_pos rfl]
      have hl6' : ¬ (6 : Int) < (L.length : Int) := by omega
      have hAt := fun k hk => isW_at hw2 (k := k) hk
      have HAt := Lib.hid hAt
      clear hw2 ht hl20 hl6 hAt
      go_enter Try.func42, Try.ntmps42
      go_wp2_with fail
      have hb0 : Below w.heap.size w ((w.alloc (.cells #[.string p.1.str, .string p.2.str] 25 (0, 0))).alloc (.cells #[.string ⟨#[]⟩, .string ⟨#[]⟩] 25 (0, 0))) := nxAlloc (nxAlloc (Below.refl _ _) _) _
      have hx0 := heap_keep (nxAlloc (Below.refl _ _) (.cells #[.string ⟨#[]⟩, .string ⟨#[]⟩] 25 (0, 0))) (heap_alloc_at w (.cells #[.string p.1.str, .string p.2.str] 25 (0, 0)))
      have hx1 := heap_alloc_at (w.alloc (.cells #[.string p.1.str, .string p.2.str] 25 (0, 0))) (.cells #[.string ⟨#[]⟩, .string ⟨#[]⟩] 25 (0, 0))
      generalize ((w.alloc (.cells #[.string p.1.str, .string p.2.str] 25 (0, 0))).alloc (.cells #[.string ⟨#[]⟩, .string ⟨#[]⟩] 25 (0, 0))) = w0 at *
      have e1 : (w.alloc (.cells #[.string p.1.str, .string p.2.str] 25 (0, 0))).heap.size = w.heap.size + 1 := by simp
      rw [e1] at hx1
      clear e1
      obtain ⟨hx0a, hx0b, hx0c⟩ := two_facts hx0
      obtain ⟨hx0f, hx0g⟩ := two_frozen hx0
      obtain ⟨hx1a, hx1b, hx1c⟩ := two_facts hx1
      obtain ⟨hx1f, hx1g⟩ := two_frozen hx1
      refine (hg' _).mono ?_; rintro e w1 ⟨rfl, hb1⟩
      have hbw1 := nx hb0 hb1
      replace hx0 := heap_keep hb1 hx0
      replace hx1 := heap_keep hb1 hx1
      clear hx0a hx0b hx0c hx0f hx0g
      obtain ⟨hx0a, hx0b, hx0c⟩ := two_facts hx0
      obtain ⟨hx0f, hx0g⟩ := two_frozen hx0
      clear hx1a hx1b hx1c hx1f hx1g
      obtain ⟨hx1a, hx1b, hx1c⟩ := two_facts hx1
      obtain ⟨hx1f, hx1g⟩ := two_frozen hx1
      clear hb1 hb0
      go_wp2_with fail
      have hs0 := set_two (.string R.1.str) (.string R.2.str) hx0
      have hs1 := (Below.heap_setCell (w1.setCell ⟨w.heap.size, 0, none⟩ (.string R.1.str)) ⟨w.heap.size, 1, none⟩ (.string R.2.str) _ (by show ¬ _ = w.heap.size; omega)).trans ((Below.heap_setCell w1 ⟨w.heap.size, 0, none⟩ (.string R.1.str) _ (by show ¬ _ = w.heap.size; omega)).trans hx1)
      have hbs := (hbw1.setCell (p := ⟨w.heap.size, 0, none⟩) (Nat.le_refl _) (.string R.1.str)).setCell (p := ⟨w.heap.size, 1, none⟩) (Nat.le_refl _) (.string R.2.str)
      generalize (w1.setCell ⟨w.heap.size, 0, none⟩ (.string R.1.str)).setCell ⟨w.heap.size, 1, none⟩ (.string R.2.str) = ws at *
      clear hx0a hx0b hx0c hx0f hx0g hx1a hx1b hx1c hx1f hx1g hx0 hx1 hbw1
      have hx0 := hs0
      clear hs0
      have hx1 := hs1
      clear hs1
      obtain ⟨hx0a, hx0b, hx0c⟩ := two_facts hx0
      obtain ⟨hx0f, hx0g⟩ := two_frozen hx0
      obtain ⟨hx1a, hx1b, hx1c⟩ := two_facts hx1
      obtain ⟨hx1f, hx1g⟩ := two_frozen hx1
      have h9 := hK _ (CellsI.keep HV.out hbs)
      refine (h9).mono ?_; rintro e w2 ⟨rfl, hb2⟩
      have hbw2 := nx hbs hb2
      replace hx0 := heap_keep hb2 hx0
      replace hx1 := heap_keep hb2 hx1
      clear hx0a hx0b hx0c hx0f hx0g
      obtain ⟨hx0a, hx0b, hx0c⟩ := two_facts hx0
      obtain ⟨hx0f, hx0g⟩ := two_frozen hx0
      clear hx1a hx1b hx1c hx1f hx1g
      obtain ⟨hx1a, hx1b, hx1c⟩ := two_facts hx1
      obtain ⟨hx1f, hx1g⟩ := two_frozen hx1
      clear hb2 hbs
      go_wp2_with fail
      go_loopw [31] (fun i wr => ∃ (k : Nat) (r : Pr), k ≤ L.length ∧ i = .int .i64 k ∧ wr.heap[w.heap.size]? = some (.cells #[.string r.1.str, .string r.2.str] 25 (0, 0)) ∧ wr.heap[w.heap.size + 1]? = some (.cells #[.string ⟨#[]⟩, .string ⟨#[]⟩] 25 (0, 0)) ∧ Below w.heap.size w wr ∧ okP r ∧ r.1.carets ≤ 8 ∧ Hid (cbW r (L.drop k) = cbW R L)) (fun i _ => L.length - (intOf i).toNat)
      case atStart => exact ⟨0, R, Nat.zero_le _, rfl, hx0, hx1, hbw2, hro, hrc, rfl⟩
      case round =>
        clear hx0 hx1 hx0a hx0b hx0c hx0f hx0g hx1a hx1b hx1c hx1f hx1g hbw2 hro hrc
        obtain ⟨k, r, hk, rfl, hx0, hx1, hbw, hro, hrc, hcb⟩ := hrel
        obtain ⟨hx0a, hx0b, hx0c⟩ := two_facts hx0
        obtain ⟨hx0f, hx0g⟩ := two_frozen hx0
        obtain ⟨hx1a, hx1b, hx1c⟩ := two_facts hx1
        obtain ⟨hx1f, hx1g⟩ := two_frozen hx1
        by_cases hlt : k < L.length
        · have hlt' : (k : Int) < (L.length : Int) := by omega
          obtain ⟨g, rfl, _, hgl, c0⟩ := HC.out k hlt
          have c1 := (hbw.cell (p := ⟨g, k, none⟩) hgl).trans c0
          have hkl : k < L.length := hlt
          obtain ⟨hx9, hxl, hxu⟩ := HAt.out k hkl
          have hcb2 := hcb.out
          rw [cbW_drop hkl] at hcb2
          clear c0 hcb hkl
          generalize L.getD k 0 = x at *
          have hlo := (ltP_ok x).1
          have hls := lt_small hxl hxu
          have hmo := conP_ok hro hlo
          have hmc := conP_carets hro hlo
          have D := fun w => pairOfLetter_any x w hx9 (by omega) (by omega)
          rw [ltO_yes hx9 hxl hxu] at D
          have D' : ∀ w, Calls Try.prog 79 #[.int .i64 x] w (Gives (.tuple #[.agg #[.string (ltP x).1.str, .string (ltP x).2.str], .bool true]) w) := D
          have s1 := r.1.str_size
          have s2 := r.2.str_size
          have s3 := (ltP x).1.str_size
          have s4 := (ltP x).2.str_size
          have hro' : r.1.carets = r.2.carets := hro
          have hlo' : (ltP x).1.carets = (ltP x).2.carets := hlo
          have T := fun w => implConjugatePair_any r.1.str r.2.str (ltP x).1.str (ltP x).2.str w (by omega) (by omega) (by omega) (by omega)
          rw [pairOf_str hro hrc, pairOf_str hlo (by omega)] at T
          have T' : ∀ w, Calls Try.prog 16 #[.agg #[.string r.1.str, .string r.2.str], .agg #[.string (ltP x).1.str, .string (ltP x).2.str]] w (Gives (ansPr (limP (conP r (ltP x)))) w) := T
          generalize ltP x = lx at *
          generalize conP r lx = M at *
          have HB2 := Lib.hid hcb2
          clear hcb2 hmc hls hlo s1 s2 s3 s4 hro' hlo' D T
          by_cases h8 : M.1.carets ≤ 8
          · have hb3 := HB2.out
            rw [if_pos h8] at hb3
            have HB3 := Lib.hid hb3
            have T2 : ∀ w, Calls Try.prog 16 #[.agg #[.string r.1.str, .string r.2.str], .agg #[.string lx.1.str, .string lx.2.str]] w (Gives (.tuple #[.agg #[.string M.1.str, .string M.2.str], .bool true]) w) := by
              intro w; have := T' w; rw [limP, if_pos h8] at this; exact this
            clear hb3 HB2 T'
            have h8m := h8
            clear h8
            go_wp2_with fail
            refine (D' _).mono ?_; rintro e w201 ⟨rfl, hb201⟩
            have hbw201 := nx hbw hb201
            replace hx0 := heap_keep hb201 hx0
            replace hx1 := heap_keep hb201 hx1
            clear hx0a hx0b hx0c hx0f hx0g
            obtain ⟨hx0a, hx0b, hx0c⟩ := two_facts hx0
            obtain ⟨hx0f, hx0g⟩ := two_frozen hx0
            clear hx1a hx1b hx1c hx1f hx1g
            obtain ⟨hx1a, hx1b, hx1c⟩ := two_facts hx1
            obtain ⟨hx1f, hx1g⟩ := two_frozen hx1
            clear hb201 hbw
            go_wp2_with fail
            have hbw202 := nxAlloc hbw201 (.cells #[.string lx.1.str, .string lx.2.str] 25 (0, 0))
            replace hx0 := heap_keep (nxAlloc (Below.refl _ _) (.cells #[.string lx.1.str, .string lx.2.str] 25 (0, 0))) hx0
            replace hx1 := heap_keep (nxAlloc (Below.refl _ _) (.cells #[.string lx.1.str, .string lx.2.str] 25 (0, 0))) hx1
            have hy202 := heap_alloc_at w201 (.cells #[.string lx.1.str, .string lx.2.str] 25 (0, 0))
            generalize w201.alloc (.cells #[.string lx.1.str, .string lx.2.str] 25 (0, 0)) = w202 at *
            clear hbw201
            clear hx0a hx0b hx0c hx0f hx0g
            obtain ⟨hx0a, hx0b, hx0c⟩ := two_facts hx0
            obtain ⟨hx0f, hx0g⟩ := two_frozen hx0
            clear hx1a hx1b hx1c hx1f hx1g
            obtain ⟨hx1a, hx1b, hx1c⟩ := two_facts hx1
            obtain ⟨hx1f, hx1g⟩ := two_frozen hx1
            obtain ⟨hy202a, hy202b, hy202c⟩ := two_facts hy202
            obtain ⟨hy202f, hy202g⟩ := two_frozen hy202
            go_wp2_with fail
            refine (T2 _).mono ?_; rintro e w203 ⟨rfl, hb203⟩
            have hbw203 := nx hbw202 hb203
            replace hx0 := heap_keep hb203 hx0
            replace hx1 := heap_keep hb203 hx1
            replace hy202 := heap_keep hb203 hy202
            clear hx0a hx0b hx0c hx0f hx0g
            obtain ⟨hx0a, hx0b, hx0c⟩ := two_facts hx0
            obtain ⟨hx0f, hx0g⟩ := two_frozen hx0
            clear hx1a hx1b hx1c hx1f hx1g
            obtain ⟨hx1a, hx1b, hx1c⟩ := two_facts hx1
            obtain ⟨hx1f, hx1g⟩ := two_frozen hx1
            clear hy202a hy202b hy202c hy202f hy202g
            obtain ⟨hy202a, hy202b, hy202c⟩ := two_facts hy202
            obtain ⟨hy202f, hy202g⟩ := two_frozen hy202
            clear hb203 hbw202
            go_wp2_with fail
            clear hy202 hy202a hy202b hy202c hy202f hy202g
            have hs0 := set_two (.string M.1.str) (.string M.2.str) hx0
            have hs1 := (Below.heap_setCell (w203.setCell ⟨w.heap.size, 0, none⟩ (.string M.1.str)) ⟨w.heap.size, 1, none⟩ (.string M.2.str) _ (by show ¬ _ = w.heap.size; omega)).trans ((Below.heap_setCell w203 ⟨w.heap.size, 0, none⟩ (.string M.1.str) _ (by show ¬ _ = w.heap.size; omega)).trans hx1)
            have hbs := (hbw203.setCell (p := ⟨w.heap.size, 0, none⟩) (Nat.le_refl _) (.string M.1.str)).setCell (p := ⟨w.heap.size, 1, none⟩) (Nat.le_refl _) (.string M.2.str)
            generalize (w203.setCell ⟨w.heap.size, 0, none⟩ (.string M.1.str)).setCell ⟨w.heap.size, 1, none⟩ (.string M.2.str) = wt at *
            clear hx0a hx0b hx0c hx0f hx0g hx1a hx1b hx1c hx1f hx1g hx0 hx1 hbw203
            have hx0 := hs0
            clear hs0
            have hx1 := hs1
            clear hs1
            obtain ⟨hx0a, hx0b, hx0c⟩ := two_facts hx0
            obtain ⟨hx0f, hx0g⟩ := two_frozen hx0
            obtain ⟨hx1a, hx1b, hx1c⟩ := two_facts hx1
            obtain ⟨hx1f, hx1g⟩ := two_frozen hx1
            go_roundw
            case rel => exact ⟨k + 1, M, by omega, by go_num, hx0, hx1, hbs, hmo, h8m, HB3.out⟩
            case measure => simp [intOf]; omega
          · have hb3 := HB2.out
            rw [if_neg h8] at hb3
            have HB3 := Lib.hid hb3
            have T2 : ∀ w, Calls Try.prog 16 #[.agg #[.string r.1.str, .string r.2.str], .agg #[.string lx.1.str, .string lx.2.str]] w (Gives (.tuple #[.agg #[.string ⟨#[]⟩, .string ⟨#[]⟩], .bool false]) w) := by
              intro w; have := T' w; rw [limP, if_neg h8] at this; exact this
            clear hb3 HB2 T'
            have h8m := h8
            clear h8
            go_wp2_with fail
            refine (D' _).mono ?_; rintro e w201 ⟨rfl, hb201⟩
            have hbw201 := nx hbw hb201
            replace hx0 := heap_keep hb201 hx0
            replace hx1 := heap_keep hb201 hx1
            clear hx0a hx0b hx0c hx0f hx0g
            obtain ⟨hx0a, hx0b, hx0c⟩ := two_facts hx0
            obtain ⟨hx0f, hx0g⟩ := two_frozen hx0
            clear hx1a hx1b hx1c hx1f hx1g
            obtain ⟨hx1a, hx1b, hx1c⟩ := two_facts hx1
            obtain ⟨hx1f, hx1g⟩ := two_frozen hx1
            clear hb201 hbw
            go_wp2_with fail
            have hbw202 := nxAlloc hbw201 (.cells #[.string lx.1.str, .string lx.2.str] 25 (0, 0))
            replace hx0 := heap_keep (nxAlloc (Below.refl _ _) (.cells #[.string lx.1.str, .string lx.2.str] 25 (0, 0))) hx0
            replace hx1 := heap_keep (nxAlloc (Below.refl _ _) (.cells #[.string lx.1.str, .string lx.2.str] 25 (0, 0))) hx1
            have hy202 := heap_alloc_at w201 (.cells #[.string lx.1.str, .string lx.2.str] 25 (0, 0))
            generalize w201.alloc (.cells #[.string lx.1.str, .string lx.2.str] 25 (0, 0)) = w202 at *
            clear hbw201
            clear hx0a hx0b hx0c hx0f hx0g
            obtain ⟨hx0a, hx0b, hx0c⟩ := two_facts hx0
            obtain ⟨hx0f, hx0g⟩ := two_frozen hx0
            clear hx1a hx1b hx1c hx1f hx1g
            obtain ⟨hx1a, hx1b, hx1c⟩ := two_facts hx1
            obtain ⟨hx1f, hx1g⟩ := two_frozen hx1
            obtain ⟨hy202a, hy202b, hy202c⟩ := two_facts hy202
            obtain ⟨hy202f, hy202g⟩ := two_frozen hy202
            go_wp2_with fail
            refine (T2 _).mono ?_; rintro e w203 ⟨rfl, hb203⟩
            have hbw203 := nx hbw202 hb203
            replace hx0 := heap_keep hb203 hx0
            replace hx1 := heap_keep hb203 hx1
            replace hy202 := heap_keep hb203 hy202
            clear hx0a hx0b hx0c hx0f hx0g
            obtain ⟨hx0a, hx0b, hx0c⟩ := two_facts hx0
            obtain ⟨hx0f, hx0g⟩ := two_frozen hx0
            clear hx1a hx1b hx1c hx1f hx1g
            obtain ⟨hx1a, hx1b, hx1c⟩ := two_facts hx1
            obtain ⟨hx1f, hx1g⟩ := two_frozen hx1
            clear hy202a hy202b hy202c hy202f hy202g
            obtain ⟨hy202a, hy202b, hy202c⟩ := two_facts hy202
            obtain ⟨hy202f, hy202g⟩ := two_frozen hy202
            clear hb203 hbw202
            go_wp2_with fail
            clear hy202 hy202a hy202b hy202c hy202f hy202g
            have hs0 := set_two (.string ⟨#[]⟩) (.string ⟨#[]⟩) hx0
            have hs1 := (Below.heap_setCell (w203.setCell ⟨w.heap.size, 0, none⟩ (.string ⟨#[]⟩)) ⟨w.heap.size, 1, none⟩ (.string ⟨#[]⟩) _ (by show ¬ _ = w.heap.size; omega)).trans ((Below.heap_setCell w203 ⟨w.heap.size, 0, none⟩ (.string ⟨#[]⟩) _ (by show ¬ _ = w.heap.size; omega)).trans hx1)
            have hbs := (hbw203.setCell (p := ⟨w.heap.size, 0, none⟩) (Nat.le_refl _) (.string ⟨#[]⟩)).setCell (p := ⟨w.heap.size, 1, none⟩) (Nat.le_refl _) (.string ⟨#[]⟩)
            generalize (w203.setCell ⟨w.heap.size, 0, none⟩ (.string ⟨#[]⟩)).setCell ⟨w.heap.size, 1, none⟩ (.string ⟨#[]⟩) = wt at *
            clear hx0a hx0b hx0c hx0f hx0g hx1a hx1b hx1c hx1f hx1g hx0 hx1 hbw203
            have hx0 := hs0
            clear hs0
            have hx1 := hs1
            clear hs1
            obtain ⟨hx0a, hx0b, hx0c⟩ := two_facts hx0
            obtain ⟨hx0f, hx0g⟩ := two_frozen hx0
            obtain ⟨hx1a, hx1b, hx1c⟩ := two_facts hx1
            obtain ⟨hx1f, hx1g⟩ := two_frozen hx1
            obtain ⟨q1, q2⟩ := two_cells (set_two (.string ⟨#[]⟩) (.string ⟨#[]⟩) hx1)
            refine bodyPost_ret (v := .tuple #[.agg #[.string ⟨#[]⟩, .string ⟨#[]⟩], .bool false]) (by simp [q1, q2, results, Try.results42, go_sem]) rfl ⟨by rw [← HB3.out]; rfl, ?_⟩
            exact (hbs.setCell (by show w.heap.size ≤ w.heap.size + 1; omega) _).setCell (by show w.heap.size ≤ w.heap.size + 1; omega) _
        · obtain rfl : k = L.length := by omega
          have hcb2 := hcb.out
          rw [List.drop_of_length_le (Nat.le_refl _)] at hcb2
          have HB2 := Lib.hid hcb2
          clear hcb hcb2
          go_wp2_with fail
          obtain ⟨q1, q2⟩ := two_cells (set_two (.string r.1.str) (.string r.2.str) hx1)
          refine bodyPost_ret (v := .tuple #[.agg #[.string r.1.str, .string r.2.str], .bool true]) (by simp [q1, q2, results, Try.results42, go_sem]) rfl ⟨by rw [← HB2.out]; rfl, ?_⟩
          exact (hbw.setCell (by show w.heap.size ≤ w.heap.size + 1; omega) _).setCell (by show w.heap.size ≤ w.heap.size + 1; omega) _
end Go.Proofs.Ytkpganpojdboeaa

/-! WConjugateByWord -/
namespace Go.Proofs.Ytkpganpojdboeaa
open Go.RowKit

theorem CellsI.of8 {base : Nat} {w : World} {g n : Nat} {ss : List Int} (h : OwnI base w (.slice (some ⟨g, 0, none⟩) n n) ss) : CellsI base w (.slice (some ⟨g, 0, none⟩) n n) ss := OwnI.cells h

set_option maxRecDepth 100000 in
set_option maxHeartbeats 2000000 in
theorem conjByWord_law (a0 : ByteArray) (ha0 : a0.size ≤ maxLen) (b0 : ByteArray) (hb0' : b0.size ≤ maxLen) (w : World) (oa : Option Addr) (n cap : Nat) (L : List Int) (hl : L.length = n) (hl2 : (n : Int) ≤ 9223372036854775807) (hz : ∀ s ∈ L, -9223372036854775808 ≤ s ∧ s ≤ 9223372036854775807) (hin : InI w oa L) :
    Calls Try.prog 12 #[.agg #[.string a0, .string b0], .slice oa n cap] w fun e w' => e = .returned (.bool true) ∧ Below w.heap.size w w' := by
  unfold maxLen at ha0 hb0'
  have HI := Lib.hid hin
  have HL := Lib.hid hl
  have hsz0 := fun w => szPair_any a0 b0 w (by omega) (by omega) 1048576 (by omega) (by omega)
  clear hin hl
  by_cases hbig : (1048576 : Int) < n
  · clear hsz0 hz
    go_enter Try.func12, Try.ntmps12
    go_wp2_with fail
    go_ret
    exact ⟨rfl, nxAlloc (Below.refl _ _) _⟩
  by_cases hz0 : (a0.size : Int) + b0.size ≤ 1048576
  rotate_left
  · simp only [if_neg hz0] at hsz0
    clear hz
    go_enter Try.func12, Try.ntmps12
    go_wp2_with fail
    have hb0 : Below w.heap.size w (w.alloc (.cells #[.string a0, .string b0] 23 (0, 0))) := nxAlloc (Below.refl _ _) _
    have hx0 := heap_alloc_at w (.cells #[.string a0, .string b0] 23 (0, 0))
    generalize (w.alloc (.cells #[.string a0, .string b0] 23 (0, 0))) = w0 at *
    obtain ⟨hx0a, hx0b, hx0c⟩ := two_facts hx0
    obtain ⟨hx0f, hx0g⟩ := two_frozen hx0
    refine (hsz0 _).mono ?_; rintro e w1 ⟨rfl, hb1⟩
    have hbw1 := nx hb0 hb1
    replace hx0 := heap_keep hb1 hx0
    clear hx0a hx0b hx0c hx0f hx0g
    obtain ⟨hx0a, hx0b, hx0c⟩ := two_facts hx0
    obtain ⟨hx0f, hx0g⟩ := two_frozen hx0
    clear hb1 hb0
    go_wp2_with fail
    go_ret
    exact ⟨rfl, hbw1⟩
  simp only [if_pos hz0] at hsz0
  have hS := fun v b w h => specConjugateByWord_any a0 b0 v L b w (by omega) (by omega) h hz
  have hI := fun v b w h => implConjugateByWord_any a0 b0 v L b w (by omega) (by omega) h hz
  have hS' : ∀ v b w, CellsI b w v L → Calls Try.prog 40 #[.agg #[.string a0, .string b0], v] w (Gives (ansPr (cbO a0 b0 L)) w) := hS
  have hI' : ∀ v b w, CellsI b w v L → Calls Try.prog 42 #[.agg #[.string a0, .string b0], v] w (Gives (ansPr (cbO a0 b0 L)) w) := hI
  clear hS hI hz
  generalize cbO a0 b0 L = o at hS' hI'
  unfold ansPr at hS' hI'
  generalize pS1 o = A at hS' hI'
  generalize pS2 o = B at hS' hI'
  generalize o.isSome = ok at hS' hI'
  clear o
  have hT := fun w h => toIntS_any oa cap n L w HL.out (by omega) h
  go_enter Try.func12, Try.ntmps12
  go_wp2_with fail
  have hb0 : Below w.heap.size w (w.alloc (.cells #[.string a0, .string b0] 23 (0, 0))) := nxAlloc (Below.refl _ _) _
  have hx0 := heap_alloc_at w (.cells #[.string a0, .string b0] 23 (0, 0))
  generalize (w.alloc (.cells #[.string a0, .string b0] 23 (0, 0))) = w0 at *
  obtain ⟨hx0a, hx0b, hx0c⟩ := two_facts hx0
  obtain ⟨hx0f, hx0g⟩ := two_frozen hx0
  refine (hsz0 _).mono ?_; rintro e w1 ⟨rfl, hb1⟩
  have hbw1 := nx hb0 hb1
  replace hx0 := heap_keep hb1 hx0
  clear hx0a hx0b hx0c hx0f hx0g
  obtain ⟨hx0a, hx0b, hx0c⟩ := two_facts hx0
  obtain ⟨hx0f, hx0g⟩ := two_frozen hx0
  clear hb1 hb0
  go_wp2_with fail
  refine (toPair_any a0 b0 _).mono ?_; rintro e w2 ⟨rfl, hb2⟩
  have hbw2 := nx hbw1 hb2
  replace hx0 := heap_keep hb2 hx0
  clear hx0a hx0b hx0c hx0f hx0g
  obtain ⟨hx0a, hx0b, hx0c⟩ := two_facts hx0
  obtain ⟨hx0f, hx0g⟩ := two_frozen hx0
  clear hb2 hbw1
  go_wp2_with fail
  refine (hT _ (HI.out.keep hbw2)).mono ?_; rintro e w3 ⟨pg, po, hb3, rfl⟩
  have hbw3 := nx hbw2 hb3
  replace hx0 := heap_keep hb3 hx0
  clear hx0a hx0b hx0c hx0f hx0g
  obtain ⟨hx0a, hx0b, hx0c⟩ := two_facts hx0
  obtain ⟨hx0f, hx0g⟩ := two_frozen hx0
  clear hb3 hbw2
  go_wp2_with fail
  refine (hS' _ _ _ po.cells).mono ?_; rintro e w4 ⟨rfl, hb4⟩
  have hbw4 := nx hbw3 hb4
  replace hx0 := heap_keep hb4 hx0
  clear hx0a hx0b hx0c hx0f hx0g
  obtain ⟨hx0a, hx0b, hx0c⟩ := two_facts hx0
  obtain ⟨hx0f, hx0g⟩ := two_frozen hx0
  replace po := po.keep hb4
  clear hb4 hbw3
  go_wp2_with fail
  have hbw5 := nxAlloc hbw4 (.cells #[.string A, .string B] 25 (0, 0))
  replace hx0 := heap_keep (nxAlloc (Below.refl _ _) (.cells #[.string A, .string B] 25 (0, 0))) hx0
  have hy5 := heap_alloc_at w4 (.cells #[.string A, .string B] 25 (0, 0))
  generalize w4.alloc (.cells #[.string A, .string B] 25 (0, 0)) = w5 at *
  clear hbw4
  clear hx0a hx0b hx0c hx0f hx0g
  obtain ⟨hx0a, hx0b, hx0c⟩ := two_facts hx0
  obtain ⟨hx0f, hx0g⟩ := two_frozen hx0
  obtain ⟨hy5a, hy5b, hy5c⟩ := two_facts hy5
  obtain ⟨hy5f, hy5g⟩ := two_frozen hy5
  go_wp2_with fail
  refine (hT _ (HI.out.keep hbw5)).mono ?_; rintro e w6 ⟨qg, qo, hb6, rfl⟩
  have hbw6 := nx hbw5 hb6
  replace hx0 := heap_keep hb6 hx0
  replace hy5 := heap_keep hb6 hy5
  clear hx0a hx0b hx0c hx0f hx0g
  obtain ⟨hx0a, hx0b, hx0c⟩ := two_facts hx0
  obtain ⟨hx0f, hx0g⟩ := two_frozen hx0
  clear hy5a hy5b hy5c hy5f hy5g
  obtain ⟨hy5a, hy5b, hy5c⟩ := two_facts hy5
  obtain ⟨hy5f, hy5g⟩ := two_frozen hy5
  clear hb6 hbw5
  go_wp2_with fail
  refine (toPair_any a0 b0 _).mono ?_; rintro e w7 ⟨rfl, hb7⟩
  have hbw7 := nx hbw6 hb7
  replace hx0 := heap_keep hb7 hx0
  replace hy5 := heap_keep hb7 hy5
  clear hx0a hx0b hx0c hx0f hx0g
  obtain ⟨hx0a, hx0b, hx0c⟩ := two_facts hx0
  obtain ⟨hx0f, hx0g⟩ := two_frozen hx0
  clear hy5a hy5b hy5c hy5f hy5g
  obtain ⟨hy5a, hy5b, hy5c⟩ := two_facts hy5
  obtain ⟨hy5f, hy5g⟩ := two_frozen hy5
  replace qo := qo.keep hb7
  clear hb7 hbw6
  go_wp2_with fail
  refine (hI' _ _ _ qo.cells).mono ?_; rintro e w8 ⟨rfl, hb8⟩
  have hbw8 := nx hbw7 hb8
  replace hx0 := heap_keep hb8 hx0
  replace hy5 := heap_keep hb8 hy5
  clear hx0a hx0b hx0c hx0f hx0g
  obtain ⟨hx0a, hx0b, hx0c⟩ := two_facts hx0
  obtain ⟨hx0f, hx0g⟩ := two_frozen hx0
  clear hy5a hy5b hy5c hy5f hy5g
  obtain ⟨hy5a, hy5b, hy5c⟩ := two_facts hy5
  obtain ⟨hy5f, hy5g⟩ := two_frozen hy5
  replace qo := qo.keep hb8
  clear hb8 hbw7
  go_wp2_with fail
  replace qo := OwnI.keep qo (nxAlloc (Below.refl _ _) (.cells #[.string A, .string B] 25 (0, 0)))
  have hbw9 := nxAlloc hbw8 (.cells #[.string A, .string B] 25 (0, 0))
  replace hx0 := heap_keep (nxAlloc (Below.refl _ _) (.cells #[.string A, .string B] 25 (0, 0))) hx0
  replace hy5 := heap_keep (nxAlloc (Below.refl _ _) (.cells #[.string A, .string B] 25 (0, 0))) hy5
  have hy9 := heap_alloc_at w8 (.cells #[.string A, .string B] 25 (0, 0))
  generalize w8.alloc (.cells #[.string A, .string B] 25 (0, 0)) = w9 at *
  clear hbw8
  clear hx0a hx0b hx0c hx0f hx0g
  obtain ⟨hx0a, hx0b, hx0c⟩ := two_facts hx0
  obtain ⟨hx0f, hx0g⟩ := two_frozen hx0
  clear hy5a hy5b hy5c hy5f hy5g
  obtain ⟨hy5a, hy5b, hy5c⟩ := two_facts hy5
  obtain ⟨hy5f, hy5g⟩ := two_frozen hy5
  obtain ⟨hy9a, hy9b, hy9c⟩ := two_facts hy9
  obtain ⟨hy9f, hy9g⟩ := two_frozen hy9
  go_wp2_with fail
  refine (eqPair_same A B _).mono ?_; rintro e w10 ⟨rfl, hb10⟩
  have hbw10 := nx hbw9 hb10
  replace hx0 := heap_keep hb10 hx0
  replace hy5 := heap_keep hb10 hy5
  replace hy9 := heap_keep hb10 hy9
  clear hx0a hx0b hx0c hx0f hx0g
  obtain ⟨hx0a, hx0b, hx0c⟩ := two_facts hx0
  obtain ⟨hx0f, hx0g⟩ := two_frozen hx0
  clear hy5a hy5b hy5c hy5f hy5g
  obtain ⟨hy5a, hy5b, hy5c⟩ := two_facts hy5
  obtain ⟨hy5f, hy5g⟩ := two_frozen hy5
  clear hy9a hy9b hy9c hy9f hy9g
  obtain ⟨hy9a, hy9b, hy9c⟩ := two_facts hy9
  obtain ⟨hy9f, hy9g⟩ := two_frozen hy9
  replace qo := qo.keep hb10
  clear hb10 hbw9
  go_wp2_with fail
  refine (hT _ (HI.out.keep hbw10)).mono ?_; rintro e w11 ⟨rg, ro, hb11, rfl⟩
  have hbw11 := nx hbw10 hb11
  replace hx0 := heap_keep hb11 hx0
  replace hy5 := heap_keep hb11 hy5
  replace hy9 := heap_keep hb11 hy9
  clear hx0a hx0b hx0c hx0f hx0g
  obtain ⟨hx0a, hx0b, hx0c⟩ := two_facts hx0
  obtain ⟨hx0f, hx0g⟩ := two_frozen hx0
  clear hy5a hy5b hy5c hy5f hy5g
  obtain ⟨hy5a, hy5b, hy5c⟩ := two_facts hy5
  obtain ⟨hy5f, hy5g⟩ := two_frozen hy5
  clear hy9a hy9b hy9c hy9f hy9g
  obtain ⟨hy9a, hy9b, hy9c⟩ := two_facts hy9
  obtain ⟨hy9f, hy9g⟩ := two_frozen hy9
  replace qo := qo.keep hb11
  clear hb11 hbw10
  go_wp2_with fail
  refine (eqIntS_any _ _ _ _ L _ qo.cells ro.cells).mono ?_; rintro e wz ⟨rfl, dz, rfl⟩
  go_wp2_with fail
  go_ret
  exact ⟨rfl, drewB hbw11 _⟩

theorem fnExactConjugateByWord_walk (W : World) (a0a : ByteArray) (w0a : a0a.size ≤ maxLen) (a0b : ByteArray) (w0b : a0b.size ≤ maxLen) (a : Option Addr) (len cap : Nat) (z : List Int) (h : IsInts W a len cap z) :
    Calls Try.prog 12 #[.agg #[.string a0a, .string a0b], .slice a len cap] W fun e w' => e = .returned (.bool true) ∧ Below W.heap.size W w' := by
  obtain ⟨h1, h2, h3, h4⟩ := h.inI
  exact conjByWord_law a0a w0a a0b w0b W a len cap (z.take len) h2 h3 h4 h1
end Go.Proofs.Ytkpganpojdboeaa

/-! LFnExactConjugateByWord -/
namespace Go.Proofs.Ytkpganpojdboeaa.fnExactConjugateByWord
open Go.ChangeShapes Go.WideShapes Go.ChangeAt Go.RowKit
open Go.ChangeMaps (open_string shut_string)
open Go.Joins (open_agg2 shut_agg2)
set_option linter.unusedVariables false

theorem cellsPair : Try.prog.cellsOf 23 = 2 := by kernel_rfl
theorem own : ownKnob Try.prog.godebug = none := by kernel_rfl
theorem laidOut : laidOutB Try.prog = true := by kernel_rfl

set_option maxRecDepth 100000 in
theorem lifted (os : Os) (started : os.Started) (H : Type) (enc : TypeId × Value → H) :
    ReturnsInHanded {} Try.checked os 12 .any (Rows.fnExactConjugateByWordSpec.pre6 enc Try.prog Try.f12 Rows.fnExactConjugateByWordRow.domain false) (Rows.fnExactConjugateByWordSpec.post enc Try.prog Try.f12 false true false false) := by
  refine returnsInHanded_of_change (C := Try.checked) own started (by kernel_rfl) Try.func12
    (ChangeSpec.witness6 (enc := enc) (C := Try.checked) false ⟨#[], #[.agg #[.string ByteArray.empty, .string ByteArray.empty], .slice none 0 0], []⟩ 8 (by kernel_rfl) (by kernel_rfl) (by kernel_rfl) (by kernel_rfl)) ?_
  intro W base args ds gs before hval0 hW hcnd _
  have hval : ∀ (j : Nat) t v, Try.f12.params[j]? = some t → args[j]? = some v → Value.okWide Try.prog W .any base t v := hval0
  have hW' := hW
  obtain ⟨p, q, hA0, hV, rfl, hfz, hnd⟩ := hW
  have hA : DataW.TrodAll enc Try.prog W 0 (fun _ => true) true Try.f12.params.toList args.toList ds p := hA0
  rw [Try.params12] at hA hval
  obtain ⟨v0, vs0, d0, ds0, p0, q0, hargs, rfl, rfl, h0, r0⟩ := trodAll_cons hA
  obtain ⟨v1, vs1, d1, ds1, p1, q1, rfl, rfl, rfl, h1, r1⟩ := trodAll_cons r0
  obtain ⟨rfl, rfl, rfl⟩ := trodAll_nil r1
  obtain rfl : args = #[v0, v1] := by cases args; simp_all
  obtain ⟨rfl, rfl⟩ := trodVars_none hV
  obtain ⟨c0a, c0b, y0a, y0b, m0, rfl, rfl, rfl, hy0a, hy0b⟩ := open_agg2 Try.underlying23 (by kernel_rfl) cellsPair (hval 0 23 v0 rfl rfl) h0
  obtain ⟨a0a, e0a, rfl, w0a⟩ := DataW.trod_string Try.underlying9 hy0a
  obtain ⟨a0b, e0b, rfl, w0b⟩ := DataW.trod_string Try.underlying9 hy0b
  simp at e0a e0b
  subst e0a e0b
  obtain ⟨a1, len1, cap1, rfl⟩ := okWide_slice Try.underlying31 (hval 1 31 v1 rfl rfl)
  have k1 := h1
  have lt1 : ∀ x ∈ p1, x.block < W.heap.size := by obtain ⟨m, hm⟩ := k1; exact DataW.trod_lt m _ _ _ hm
  obtain ⟨z1, w1⟩ : ∃ zs, IsInts W a1 len1 cap1 zs := by
    obtain ⟨fuel, hf⟩ := h1
    rcases open_ints Try.underlying31 Try.underlying3 (by kernel_rfl) hf with ⟨hcs, _⟩ | ⟨x, l, c, zs, hcs, _, hl, hm, hz, _, hcell, hwz⟩
    · simp [Value.cells] at hcs
      obtain ⟨rfl, rfl, rfl⟩ := hcs
      exact ⟨[], .inl ⟨rfl, rfl, rfl, rfl⟩⟩
    · simp [Value.cells] at hcs
      obtain ⟨rfl, rfl, rfl⟩ := hcs
      exact ⟨zs, .inr ⟨_, rfl, hl, hm, by simpa using hz, hcell, hwz⟩⟩
  clear hA0 hval0
  simp only [List.append_nil] at hW'
  refine (fnExactConjugateByWord_walk W a0a w0a a0b w0b a1 len1 cap1 z1 w1).mono fun e W' ⟨he, bel⟩ => ?_
  subst he
  exact ⟨_, rfl, _, _, _, [], _, [], hW', trodAll_mk1 (shut_bool Try.underlying4 _), (trodAll_cons_mk (shut_agg2 (y0 := (.lit (.string a0a.data.toList), [])) (y1 := (.lit (.string a0b.data.toList), [])) Try.underlying23 (by kernel_rfl) cellsPair (Go.Deep.shut_string_cell Try.underlying9 w0a) (Go.Deep.shut_string_cell Try.underlying9 w0b)) (trodAll_cons_mk (Below.trod laidOut (by kernel_rfl) (of_decide_eq_true (by kernel_rfl)) k1 bel lt1) trodAll_mk0)), rfl, bel.frame _, fun h => by cases h⟩

theorem over : Rows.fnExactConjugateByWordRow.holds Try.pinned (OpenSpec.ofChange Rows.fnExactConjugateByWordSpec) :=
  OpenClaim.holds_of_wide 12 Try.f12 rfl rfl rfl rfl rfl rfl rfl ⟨rfl, rfl, rfl, rfl, rfl⟩ rfl rfl rfl rfl rfl (by kernel_rfl) Try.func12 (by kernel_rfl)
    (of_decide_eq_true (by kernel_rfl)) (by unfold Func.isWrapper; first | (rw [if_pos (by decide +kernel)]; kernel_rfl) | (rw [if_neg (by decide +kernel)]; exact ⟨rfl, rfl⟩))
    (fun os started H enc _ => lifted os started H enc)

theorem proved : Rows.FnExactConjugateByWordSaid := over
#print axioms proved
end Go.Proofs.Ytkpganpojdboeaa.fnExactConjugateByWord
