/- Walks: words of both sides: spec.wdIs, wdGood, IsWord; impl.IsWord. -/
import Derived.Test.YtlcepokenaiggabDoorWdP
import Derived.Test.YtlcepokenaiggabDoorIn0
import Derived.Test.YtlcepokenaiggabDoorMarkG
import Derived.Test.YtlcepokenaiggabDoorForm
namespace Go.Proofs.YtlcepokenaiggabDoor
open Go.RowKit

theorem decide_lt_false {a b : Int} (h : b ≤ a) : decide (a < b) = false := by simp; omega

set_option maxHeartbeats 1000000 in
theorem wdIs_any (v : Value) (b1 : Nat) (L : List Int) (m : Int) (w : World) (hv : CellsI b1 w v L) (hm : 0 ≤ m) (hm2 : m ≤ 1000) :
    Calls Tryd.prog 45 #[v, .int .i64 m] w fun e w' => e = .returned (.bool (isW (m + 1) L)) ∧ w = w' := by
  obtain ⟨oa, cap, rfl, hcl, hcm, hcc⟩ := hv.form
  unfold maxLen at hcm
  clear hv
  have HC := Lib.hid hcc
  clear hcc
  go_enter Tryd.func45, Tryd.ntmps45
  go_wp2_with fail
  go_loop [9] (fun i => ∃ k : Nat, i = .int .i64 k ∧ k ≤ L.length ∧ Hid (isW (m + 1) L = isW (m + 1) (L.drop k))) (fun i => L.length - (intOf i).toNat)
  case atStart => exact ⟨0, rfl, Nat.zero_le _, rfl⟩
  case round =>
    obtain ⟨k, rfl, hk, he⟩ := hrel
    by_cases hlt : k < L.length
    · have hlt' : (k : Int) < (L.length : Int) := by omega
      obtain ⟨g, rfl, _, _, c1⟩ := HC.out k hlt
      have he' := he.out
      rw [isW_drop hlt] at he'
      generalize L.getD k 0 = x at c1 he'
      clear he
      cases hx : okL (m + 1) x with
      | false =>
        rw [hx, Bool.false_and] at he'
        have HE := Lib.hid he'
        have hx' := okL_false.1 hx
        clear he' hx
        by_cases h0 : x = 0
        · subst h0
          clear hx'
          go_wp2_with fail
          go_ret
          exact ⟨ret_bool HE.out.symm, rfl⟩
        · have h0' : (x == 0) = false := by rw [beq_eq_false_iff_ne]; exact h0
          have hno : x < -m - 1 ∨ m + 1 < x := by omega
          have HN := Lib.hid hno
          clear hx' h0 hno
          go_wp2_with fail
          refine (l1In_no x (-m - 1) (m + 1) _ HN.out).mono ?_; rintro e w1 ⟨rfl, rfl⟩
          go_wp2_with fail
          go_ret
          exact ⟨ret_bool HE.out.symm, rfl⟩
      | true =>
        rw [hx, Bool.true_and] at he'
        have HE := Lib.hid he'
        obtain ⟨h0, h1, h2⟩ := okL_iff.1 hx
        have h0' : (x == 0) = false := by rw [beq_eq_false_iff_ne]; exact h0
        have h1' : -m - 1 ≤ x := by omega
        clear he' hx h0 h1
        go_wp2_with fail
        refine (l1In_yes x (-m - 1) (m + 1) _ h1' h2).mono ?_; rintro e w1 ⟨rfl, rfl⟩
        go_wp2_with fail
        go_round
        case rel => exact ⟨k + 1, by go_num, by omega, HE⟩
        case measure => simp [intOf]; omega
    · obtain rfl : k = L.length := by omega
      have he' := he.out
      rw [isW_end] at he'
      have HE := Lib.hid he'
      clear he he'
      go_wp2_with fail
      go_ret
      exact ⟨ret_bool HE.out.symm, rfl⟩

theorem wdGood_any (v : Value) (b1 : Nat) (L : List Int) (w : World) (hv : CellsI b1 w v L) :
    Calls Tryd.prog 25 #[v] w fun e w' => e = .returned (.bool (goodW L)) ∧ w = w' := by
  have hI := wdIs_any v b1 L 20 w hv (by omega) (by omega)
  obtain ⟨oa, cap, rfl, hcl, hcm, _⟩ := hv.form
  clear hv
  unfold maxLen at hcm
  unfold goodW
  by_cases h : L.length ≤ 20
  · have h' : decide ((L.length : Int) ≤ 20) = true := by simp; omega
    rw [show decide (L.length ≤ 20) = true by simpa using h, Bool.true_and]
    go_enter Tryd.func25, Tryd.ntmps25
    go_wp2_with fail
    refine hI.mono ?_; rintro e w1 ⟨rfl, rfl⟩
    go_wp2_with fail
    go_ret
    exact ⟨rfl, rfl⟩
  · have h' : decide ((L.length : Int) ≤ 20) = false := by simp; omega
    rw [show decide (L.length ≤ 20) = false by simpa using h, Bool.false_and]
    clear hI
    go_enter Tryd.func25, Tryd.ntmps25
    go_wp2_with fail
    go_ret
    exact ⟨rfl, rfl⟩

set_option maxHeartbeats 1000000 in
theorem implIsWord_any (v : Value) (b1 : Nat) (L : List Int) (w : World) (hv : CellsI b1 w v L) :
    Calls Tryd.prog 27 #[v] w fun e w' => e = .returned (.bool (goodW L)) ∧ w = w' := by
  obtain ⟨oa, cap, rfl, hcl, hcm, hcc⟩ := hv.form
  unfold maxLen at hcm
  clear hv
  have HC := Lib.hid hcc
  clear hcc
  unfold goodW
  by_cases h : L.length ≤ 20
  · rw [show decide (L.length ≤ 20) = true by simpa using h, Bool.true_and]
    have hn : (L.length : Int) ≤ 20 := by omega
    clear h
    go_enter Tryd.func27, Tryd.ntmps27
    go_wp2_with fail
    go_loop [10] (fun i => ∃ k : Nat, i = .int .i64 k ∧ k ≤ L.length ∧ Hid (isW 21 L = isW 21 (L.drop k))) (fun i => L.length - (intOf i).toNat)
    case atStart => exact ⟨0, rfl, Nat.zero_le _, rfl⟩
    case round =>
      obtain ⟨k, rfl, hk, he⟩ := hrel
      by_cases hlt : k < L.length
      · have hlt' : (k : Int) < (L.length : Int) := by omega
        obtain ⟨g, rfl, _, _, c1⟩ := HC.out k hlt
        have he' := he.out
        rw [isW_drop hlt] at he'
        generalize L.getD k 0 = x at c1 he'
        clear he
        cases hx : okL 21 x with
        | false =>
          rw [hx, Bool.false_and] at he'
          have HE := Lib.hid he'
          have hx' := okL_false.1 hx
          clear he' hx
          by_cases h0 : x = 0
          · subst h0
            clear hx'
            go_wp2_with fail
            go_ret
            exact ⟨ret_bool HE.out.symm, rfl⟩
          · have h0' : (x == 0) = false := by rw [beq_eq_false_iff_ne]; exact h0
            by_cases h1 : x < -21
            · have h1' : decide (x < -21) = true := by simpa using h1
              clear hx' h0 h1
              go_wp2_with fail
              go_ret
              exact ⟨ret_bool HE.out.symm, rfl⟩
            · have h1' : decide (x < -21) = false := by simpa using h1
              have h2 : 21 < x := by omega
              clear hx' h0 h1
              go_wp2_with fail
              go_ret
              exact ⟨ret_bool HE.out.symm, rfl⟩
        | true =>
          rw [hx, Bool.true_and] at he'
          have HE := Lib.hid he'
          obtain ⟨h0, h1, h2⟩ := okL_iff.1 hx
          have h0' : (x == 0) = false := by rw [beq_eq_false_iff_ne]; exact h0
          have h1' : decide (x < -21) = false := by simp; omega
          have h2' : decide (21 < x) = false := by simp; omega
          clear he' hx h0 h1 h2
          go_wp2_with fail
          go_round
          case rel => exact ⟨k + 1, by go_num, by omega, HE⟩
          case measure => simp [intOf]; omega
      · obtain rfl : k = L.length := by omega
        have he' := he.out
        rw [isW_end] at he'
        have HE := Lib.hid he'
        clear he he'
        go_wp2_with fail
        go_ret
        exact ⟨ret_bool HE.out.symm, rfl⟩
  · rw [show decide (L.length ≤ 20) = false by simpa using h, Bool.false_and]
    have hn : 20 < (L.length : Int) := by omega
    clear h
    go_enter Tryd.func27, Tryd.ntmps27
    go_wp2_with fail
    go_ret
    exact ⟨rfl, rfl⟩

/-- Contracts that say that nothing turns, as those that may make memory. -/
theorem gives_of {P : Program} {f : FuncId} {args : Array Value} {w : World} {v : Value} (h : Calls P f args w fun e w' => e = .returned v ∧ w = w') : Calls P f args w (Gives v w) := h.mono fun _ _ ⟨he, hw⟩ => ⟨he, by rw [← hw]; exact Below.refl _ _⟩
end Go.Proofs.YtlcepokenaiggabDoor
