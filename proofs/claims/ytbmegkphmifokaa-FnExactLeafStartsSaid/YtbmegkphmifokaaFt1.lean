/- Walks: what the laws do with slices of fractions: eqFractionS, markFractionS, heldFractionS. -/
import Derived.Test.YtbmegkphmifokaaRowW
import Derived.Test.YtbmegkphmifokaaFr1
import Derived.Test.YtbmegkphmifokaaRegT
namespace Go.Proofs.Ytbmegkphmifokaa
open Go.RowKit

set_option maxHeartbeats 2000000 in
theorem heldFractionS_any (b1 : Nat) (v1 : Value) (n : Nat) (k : Int) (w : World) (hk0 : 0 ≤ k) (hk1 : k ≤ 1000000000) (hn9 : n ≤ 1000000000) (h1 : CellsW 2 b1 w v1 n (marks k (n * 2))) :
    Calls Try.prog 22 #[v1, .int .i64 k] w (Gives (.int .i64 (k + (n * 2 : Nat))) w) := by
  rcases h1 with ⟨rfl, hn⟩ | ⟨g, cap, rfl, hb1, hg1, hc1, hm1, hx1, _⟩
  · subst hn
    go_enter Try.func22, Try.ntmps22
    go_wp2_with fail
    go_loopw [1, 5] (fun v i wr => v = .int .i64 k ∧ i = .int .i64 0 ∧ wr = w) (fun _ _ _ => 0)
    case atStart => exact ⟨rfl, rfl, rfl⟩
    case round =>
      obtain ⟨rfl, rfl, rfl⟩ := hrel
      go_wp2_with fail
      go_ret
      exact ⟨ret_int (by simp), Below.refl _ _⟩
  · have HX1 := Lib.hid hx1
    clear hx1
    go_enter Try.func22, Try.ntmps22
    go_wp2_with fail
    go_loopw [1, 5] (fun v i wr => ∃ j : Nat, j ≤ n ∧ i = .int .i64 j ∧ v = .int .i64 (k + (j * 2 : Nat)) ∧ Below w.heap.size w wr) (fun _ i _ => n - (intOf i).toNat)
    case atStart => exact ⟨0, Nat.zero_le _, rfl, by simp, Below.refl _ _⟩
    case round =>
      obtain ⟨j, hj, rfl, rfl, hbw⟩ := hrel
      by_cases hlt : j < n
      · have hlt' : (j : Int) < (n : Int) := by omega
        have c1 := (hbw.cell (p := ⟨g, j * 2, none⟩) hg1).trans (HX1.out (j * 2) (by omega))
        have c2 := (hbw.cell (p := ⟨g, j * 2 + 1, none⟩) hg1).trans (HX1.out (j * 2 + 1) (by omega))
        rw [marks_getD k (by omega)] at c1 c2
        go_wp2_with fail
        go_roundw
        case rel => exact ⟨j + 1, by omega, by go_num, by go_num, hbw⟩
        case measure => simp [intOf]; omega
      · obtain rfl : j = n := by omega
        go_wp2_with fail
        go_ret
        exact ⟨rfl, hbw⟩

set_option maxHeartbeats 2000000 in
theorem eqFractionS_any (b1 b2 : Nat) (v1 v2 : Value) (xs : List (Nat × Nat)) (w : World) (h1 : CellsW 2 b1 w v1 xs.length (flatF xs)) (h2 : CellsW 2 b2 w v2 xs.length (flatF xs)) :
    Calls Try.prog 20 #[v1, v2] w (Gives (.bool true) w) := by
  rcases h1 with ⟨rfl, hn⟩ | ⟨g, cap, rfl, hb1, hg1, hc1, hm1, hx1, _⟩
  · rcases h2 with ⟨rfl, _⟩ | ⟨g, cap, rfl, hb1, hg1, hc1, hm1, hx1, _⟩
    all_goals
      simp only [hn] at *
      go_enter Try.func20, Try.ntmps20
      go_wp2_with fail
      go_loopw [5] (fun i wr => i = .int .i64 0 ∧ wr = w) (fun _ _ => 0)
      case atStart => exact ⟨rfl, rfl⟩
      case round =>
        obtain ⟨rfl, rfl⟩ := hrel
        go_wp2_with fail
        go_ret
        exact ⟨rfl, Below.refl _ _⟩
  · rcases h2 with ⟨rfl, hn⟩ | ⟨g2, cap2, rfl, hb2, hg2, hc2, hm2, hx2, _⟩
    · simp only [hn] at *
      go_enter Try.func20, Try.ntmps20
      go_wp2_with fail
      go_loopw [5] (fun i wr => i = .int .i64 0 ∧ wr = w) (fun _ _ => 0)
      case atStart => exact ⟨rfl, rfl⟩
      case round =>
        obtain ⟨rfl, rfl⟩ := hrel
        go_wp2_with fail
        go_ret
        exact ⟨rfl, Below.refl _ _⟩
    · have HX1 := Lib.hid hx1
      have HX2 := Lib.hid hx2
      unfold maxLen at hm1 hm2
      clear hx1 hx2
      go_enter Try.func20, Try.ntmps20
      go_wp2_with fail
      go_loopw [5] (fun i wr => ∃ k : Nat, k ≤ xs.length ∧ i = .int .i64 k ∧ Below w.heap.size w wr) (fun i _ => xs.length - (intOf i).toNat)
      case atStart => exact ⟨0, Nat.zero_le _, rfl, Below.refl _ _⟩
      case round =>
        obtain ⟨k, hk, rfl, hbw⟩ := hrel
        by_cases hlt : k < xs.length
        · have hlt' : (k : Int) < (xs.length : Int) := by omega
          have c1 := (hbw.cell (p := ⟨g, k * 2, none⟩) hg1).trans (HX1.out (k * 2) (by omega))
          have c2 := (hbw.cell (p := ⟨g, k * 2 + 1, none⟩) hg1).trans (HX1.out (k * 2 + 1) (by omega))
          have c3 := (hbw.cell (p := ⟨g2, k * 2, none⟩) hg2).trans (HX2.out (k * 2) (by omega))
          have c4 := (hbw.cell (p := ⟨g2, k * 2 + 1, none⟩) hg2).trans (HX2.out (k * 2 + 1) (by omega))
          rw [(flatF_get xs k hlt).1] at c1 c3
          rw [(flatF_get xs k hlt).2] at c2 c4
          generalize (xs.getD k (0, 0)).1 = x at *
          generalize (xs.getD k (0, 0)).2 = y at *
          have hgr : g < wr.heap.size := Nat.lt_of_lt_of_le hg1 hbw.size
          have hgr2 : g2 < wr.heap.size := Nat.lt_of_lt_of_le hg2 hbw.size
          have hE := fun w => eqFraction_same (x : Int) (y : Int) w
          go_wp2_with fail
          refine wp_region_cls (by kernel_rfl) (by kernel_rfl) ?_
          repeat (
            refine wpQuiet_step (fun K hK => ?_)
            go_simp
            first
              | (refine hK _ ?_; clear hK K)
              | (refine ⟨_, fun _ _ => rfl, hK _ ?_⟩; clear hK K)
              | (apply Exists.intro
                 refine ⟨fun w' hw' => ?_, hK _ ?_⟩
                 · first
                     | (go_at_call 29; exact hw'.call (hE _))
                     | (rw [hw'.cell hgr c1]; dsimp only [Result.andThen]; rw [hw'.cell hgr c2]; exact ⟨rfl, rfl⟩)
                     | (rw [hw'.cell hgr2 c3]; dsimp only [Result.andThen]; rw [hw'.cell hgr2 c4]; exact ⟨rfl, rfl⟩)
                 clear hK K))
          refine wpQuiet_nil ?_
          intro w' hw'
          have hbw2 := nx hbw hw'
          go_wp2_with fail
          go_roundw
          case rel => exact ⟨k + 1, by omega, by go_num, hbw2⟩
          case measure => simp [intOf]; omega
        · obtain rfl : k = xs.length := by omega
          go_wp2_with fail
          go_ret
          exact ⟨rfl, hbw⟩

theorem OwnW.set {e : TypeId} {c base : Nat} {w : World} {g cap n : Nat} {L : List Int} (h : OwnW e c base w (.slice (some ⟨g, 0, none⟩) n cap) n L) (j : Nat) (m : Int) :
    OwnW e c base (w.setCell ⟨g, j, none⟩ (.int .i64 m)) (.slice (some ⟨g, 0, none⟩) n cap) n (L.set j m) := by
  unfold OwnW at *
  rw [List.map_set]
  exact (World.ownsRow.stored h j _).1
/-- A call that hands back a number, and leaves the slice v with other numbers. -/
def MarkedW (e0 : TypeId) (c base : Nat) (r : Int) (v : Value) (n : Nat) (L : List Int) (w : World) (e : Ending) (w' : World) : Prop := e = .returned (.int .i64 r) ∧ OwnW e0 c base w' v n L ∧ Below base w w'

set_option maxHeartbeats 2000000 in
theorem markFractionS_any (base : Nat) (v : Value) (xs : List (Nat × Nat)) (k : Int) (w : World) (hk0 : 0 ≤ k) (hk1 : k ≤ 1000000000) (hn9 : xs.length ≤ 1000000000) (h : OwnF base w v xs) :
    Calls Try.prog 21 #[v, .int .i64 k] w (MarkedW 25 2 base (k + (xs.length * 2 : Nat)) v xs.length (marks k (xs.length * 2)) w) := by
  have hb0 := Below.refl base w
  have hL := flatF_length xs
  unfold OwnF at h
  generalize flatF xs = L at *
  generalize xs.length = n at *
  rcases h.cells with ⟨rfl, rfl⟩ | ⟨g, cap, rfl, hb1, hg1, hc1, hm1, hx1, hf1⟩
  · have H := Lib.hid h
    have HL := Lib.hid hL
    clear h hL
    go_enter Try.func21, Try.ntmps21
    go_wp2_with fail
    go_loopw [1, 5] (fun v i wr => v = .int .i64 k ∧ i = .int .i64 0 ∧ wr = w) (fun _ _ _ => 0)
    case atStart => exact ⟨rfl, rfl, rfl⟩
    case round =>
      obtain ⟨rfl, rfl, rfl⟩ := hrel
      go_wp2_with fail
      go_ret
      refine ⟨ret_int (by simp), ?_, hb0⟩
      have hl : L = [] := List.length_eq_zero_iff.1 (by have := HL.out; omega)
      have := H.out
      rw [hl] at this
      exact this
  · unfold maxLen at hm1
    clear hx1 hf1 hg1
    have HL := Lib.hid hL
    have H := Lib.hid h
    clear h hL
    go_enter Try.func21, Try.ntmps21
    go_wp2_with fail
    go_loopw [1, 5] (fun v i wr => ∃ j : Nat, j ≤ n ∧ i = .int .i64 j ∧ v = .int .i64 (k + (j * 2 : Nat)) ∧ OwnW 25 2 base wr (.slice (some ⟨g, 0, none⟩) n cap) n (marks k (j * 2) ++ L.drop (j * 2)) ∧ Below base w wr) (fun _ i _ => n - (intOf i).toNat)
    case atStart => exact ⟨0, Nat.zero_le _, rfl, by simp, H.out, hb0⟩
    case round =>
      obtain ⟨j, hj, rfl, rfl, hown, hbw⟩ := hrel
      by_cases hlt : j < n
      · have hlt' : (j : Int) < (n : Int) := by omega
        rcases hown.cells with ⟨h0, _⟩ | ⟨g', cap', h0, hb1', hg1, hc1', hm1', hx1, hf1⟩
        · simp at h0
        simp only [Value.slice.injEq, Option.some.injEq, Addr.mk.injEq, and_true, true_and] at h0
        obtain ⟨rfl, rfl⟩ := h0
        have c1 := hx1 (j * 2) (by omega)
        have c2 := hx1 (j * 2 + 1) (by omega)
        have f1 := hf1 (j * 2)
        have f2 := hf1 (j * 2 + 1)
        have HO := Lib.hid hown
        clear hx1 hf1 hown
        generalize (marks k (j * 2) ++ L.drop (j * 2)).getD (j * 2) 0 = y1 at *
        generalize (marks k (j * 2) ++ L.drop (j * 2)).getD (j * 2 + 1) 0 = y2 at *
        go_wp2_with fail
        go_roundw
        case rel =>
          refine ⟨j + 1, by omega, by go_num, by go_num, ?_, (hbw.setCell hb1 _).setCell hb1 _⟩
          have o1 := (HO.out.set (j * 2) (k + (j * 2 : Nat))).set (j * 2 + 1) (k + (j * 2 + 1 : Nat))
          have hL := HL.out
          rw [marks_set k L (j * 2) (by omega), marks_set k L (j * 2 + 1) (by omega)] at o1
          rw [show (j + 1) * 2 = j * 2 + 1 + 1 by omega]
          have e1 : k + ((j * 2 : Nat) : Int) = k + (j : Int) * 2 := by omega
          have e2 : k + ((j * 2 + 1 : Nat) : Int) = k + (j : Int) * 2 + 1 := by omega
          rw [e1, e2] at o1
          exact o1
        case measure => simp [intOf]; omega
      · obtain rfl : j = n := by omega
        go_wp2_with fail
        go_ret
        refine ⟨rfl, ?_, hbw⟩
        have hL := HL.out
        rw [List.drop_of_length_le (by omega), List.append_nil] at hown
        exact hown
end Go.Proofs.Ytbmegkphmifokaa
