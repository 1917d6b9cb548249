/- Texts that the claim needs, part 2. -/
import Derived.Test.YteflpaebckichaaMgLengthBySpheres0
import Derived.Test.YteflpaebckichaaRows
import Derived.WalkKit
import Derived.Deep.Light
import Derived.Lib.Bytealg
import Derived.Deep.RegionHeld3
import Derived.StillTail
import Derived.Deep.QuietTactic
import Derived.BigQuiet
import Derived.Lib.SmallJoins
import Derived.Deep.RegionWith
import Derived.RegionTactic
import Derived.Shelf.Strings.Builder1
import Derived.Deep.AppendLies
/-! Tail -/
namespace Go.Proofs.Yteflpaebckichaa
open Go.RowKit

theorem CellsI.len {base : Nat} {w : World} {v : Value} {xs : List Int} (h : CellsI base w v xs) : (xs.length : Int) ≤ 9223372036854775807 := by
  rcases h with ⟨_, rfl⟩ | ⟨g, cap, _, _, _, h1, h2, _⟩
  · simp
  · unfold maxLen at h2; omega

theorem CellsI.drewN {base : Nat} {w : World} {v : Value} {xs : List Int} (h : CellsI base w v xs) (n : Nat) : CellsI base (w.drewN n) v xs := h

set_option maxHeartbeats 1000000 in
theorem eqIntS_any (b1 b2 : Nat) (v1 v2 : Value) (xs : List Int) (w : World) (h1 : CellsI b1 w v1 xs) (h2 : CellsI b2 w v2 xs) :
    Calls Try.prog 15 #[v1, v2] w (Quietly (.bool true) w) := by
  have hl := h1.len
  rcases h1 with ⟨rfl, rfl⟩ | ⟨g, cap, rfl, hb1, hg1, hc1, hm1, hx1, _⟩
  · rcases h2 with ⟨rfl, _⟩ | ⟨g, cap, rfl, hb1, hg1, hc1, hm1, hx1, _⟩
    all_goals
      go_enter Try.func15, Try.ntmps15
      go_wp2_with fail
      go_loopw [5] (fun i wr => i = .int .i64 0 ∧ wr = w) (fun _ _ => 0)
      case atStart => exact ⟨rfl, rfl⟩
      case round =>
        obtain ⟨rfl, rfl⟩ := hrel
        go_wp2_with fail
        go_ret
        exact ⟨rfl, 0, rfl⟩
  · rcases h2 with ⟨rfl, rfl⟩ | ⟨g2, cap2, rfl, hb2, hg2, hc2, hm2, hx2, _⟩
    · go_enter Try.func15, Try.ntmps15
      go_wp2_with fail
      go_loopw [5] (fun i wr => i = .int .i64 0 ∧ wr = w) (fun _ _ => 0)
      case atStart => exact ⟨rfl, rfl⟩
      case round =>
        obtain ⟨rfl, rfl⟩ := hrel
        go_wp2_with fail
        go_ret
        exact ⟨rfl, 0, rfl⟩
    · have HX1 := Lib.hid hx1
      have HX2 := Lib.hid hx2
      clear hx1 hx2
      go_enter Try.func15, Try.ntmps15
      go_wp2_with fail
      go_loopw [5] (fun i wr => ∃ k d : Nat, k ≤ xs.length ∧ i = .int .i64 k ∧ wr = w.drewN d) (fun i _ => xs.length - (intOf i).toNat)
      case atStart => exact ⟨0, 0, Nat.zero_le _, rfl, rfl⟩
      case round =>
        obtain ⟨k, d, hk, rfl, rfl⟩ := hrel
        by_cases hlt : k < xs.length
        · have hlt' : (k : Int) < (xs.length : Int) := by omega
          have c1 := HX1.out k hlt
          have c2 := HX2.out k hlt
          obtain ⟨x, hx⟩ : ∃ x, x = xs.getD k 0 := ⟨_, rfl⟩
          rw [← hx] at c1 c2
          clear hx
          go_wp2_with fail
          go_quiet (fail)
          go_wp2_with fail
          go_roundw
          case rel => exact ⟨k + 1, _, by omega, by go_num, rfl⟩
          case measure => simp [intOf]; omega
        · obtain rfl : k = xs.length := by omega
          go_wp2_with fail
          go_ret
          exact ⟨rfl, _, rfl⟩

/-- k, k + 1, .. : n numbers. -/
def marks (k : Int) (n : Nat) : List Int := (List.range n).map fun (i : Nat) => k + (i : Int)
theorem marks_length (k : Int) (n : Nat) : (marks k n).length = n := by simp [marks]
theorem marks_getD (k : Int) {n i : Nat} (h : i < n) : (marks k n).getD i 0 = k + i := by simp [marks, h]

set_option maxHeartbeats 1000000 in
theorem heldIntS_any (b1 : Nat) (v1 : Value) (n : Nat) (k : Int) (w : World) (hk0 : 0 ≤ k) (hk1 : k ≤ 1000000000) (hn9 : n ≤ 1000000000) (h1 : CellsI b1 w v1 (marks k n)) :
    Calls Try.prog 17 #[v1, .int .i64 k] w (Quietly (.int .i64 (k + n)) w) := by
  have hl := h1.len
  rcases h1 with ⟨rfl, hn⟩ | ⟨g, cap, rfl, hb1, hg1, hc1, hm1, hx1, _⟩
  · have hn0 : n = 0 := by have := congrArg List.length hn; simpa [marks_length] using this
    subst hn0
    clear hn
    go_enter Try.func17, Try.ntmps17
    go_wp2_with fail
    go_loopw [1, 5] (fun v i wr => v = .int .i64 k ∧ i = .int .i64 0 ∧ wr = w) (fun _ _ _ => 0)
    case atStart => exact ⟨rfl, rfl, rfl⟩
    case round =>
      obtain ⟨rfl, rfl, rfl⟩ := hrel
      go_wp2_with fail
      go_ret
      exact ⟨ret_int (by simp), 0, rfl⟩
  · rw [marks_length] at hx1 hc1 hl ⊢
    have HX1 := Lib.hid hx1
    clear hx1
    go_enter Try.func17, Try.ntmps17
    go_wp2_with fail
    go_loopw [1, 5] (fun v i wr => ∃ j d : Nat, j ≤ n ∧ i = .int .i64 j ∧ v = .int .i64 (k + j) ∧ wr = w.drewN d) (fun _ i _ => n - (intOf i).toNat)
    case atStart => exact ⟨0, 0, Nat.zero_le _, rfl, by simp, rfl⟩
    case round =>
      obtain ⟨j, d, hj, rfl, rfl, rfl⟩ := hrel
      by_cases hlt : j < n
      · have hlt' : (j : Int) < (n : Int) := by omega
        have c1 := HX1.out j hlt
        rw [marks_getD k hlt] at c1
        go_wp2_with fail
        go_roundw
        case rel => exact ⟨j + 1, _, by omega, by go_num, by go_num, rfl⟩
        case measure => simp [intOf]; omega
      · obtain rfl : j = n := by omega
        go_wp2_with fail
        go_ret
        exact ⟨rfl, _, rfl⟩
theorem marks_set (k : Int) (xs : List Int) (j : Nat) (h : j < xs.length) : (marks k j ++ xs.drop j).set j (k + j) = marks k (j + 1) ++ xs.drop (j + 1) := by
  have hm := marks_length k j
  have e1 : marks k (j + 1) = marks k j ++ [k + j] := by simp [marks, List.range_succ]
  rw [List.set_append_right _ _ (by omega), hm, Nat.sub_self, e1, List.append_assoc]
  congr 1
  rw [List.drop_eq_getElem_cons h]
  rfl

theorem OwnI.set {base : Nat} {w : World} {g cap : Nat} {xs : List Int} {n : Nat} (hn : xs.length = n) (h : OwnI base w (.slice (some ⟨g, 0, none⟩) n cap) xs) (j : Nat) (m : Int) :
    OwnI base (w.setCell ⟨g, j, none⟩ (.int .i64 m)) (.slice (some ⟨g, 0, none⟩) n cap) (xs.set j m) := by
  unfold OwnI at *
  subst hn
  rw [List.length_set, List.map_set]
  exact (World.ownsRow.stored h j _).1

/-- A call that hands back a number, and leaves the slice v with other numbers. -/
def Marked (base : Nat) (r : Int) (v : Value) (xs : List Int) (w : World) (e : Ending) (w' : World) : Prop := e = .returned (.int .i64 r) ∧ OwnI base w' v xs ∧ Below base w w'

set_option maxHeartbeats 1000000 in
theorem markIntS_any (base : Nat) (v : Value) (xs : List Int) (n : Nat) (hn : xs.length = n) (k : Int) (w : World) (hk0 : 0 ≤ k) (hk1 : k ≤ 1000000000) (hn9 : n ≤ 1000000000) (h : OwnI base w v xs) :
    Calls Try.prog 16 #[v, .int .i64 k] w (Marked base (k + n) v (marks k n) w) := by
  have hb0 := Below.refl base w
  rcases h.cells with ⟨rfl, rfl⟩ | ⟨g, cap, rfl, hb1, hg1, hc1, hm1, hx1, hf1⟩
  · obtain rfl : n = 0 := hn.symm
    have H := Lib.hid h
    clear h hn
    go_enter Try.func16, Try.ntmps16
    go_wp2_with fail
    go_loopw [1, 5] (fun v i wr => v = .int .i64 k ∧ i = .int .i64 0 ∧ wr = w) (fun _ _ _ => 0)
    case atStart => exact ⟨rfl, rfl, rfl⟩
    case round =>
      obtain ⟨rfl, rfl, rfl⟩ := hrel
      go_wp2_with fail
      go_ret
      exact ⟨ret_int (by simp), H.out, hb0⟩
  · rw [hn] at hc1 h ⊢
    clear hx1 hf1
    have H := Lib.hid h
    have HN := Lib.hid hn
    clear h hn
    go_enter Try.func16, Try.ntmps16
    go_wp2_with fail
    go_loopw [1, 5] (fun v i wr => ∃ j : Nat, j ≤ n ∧ i = .int .i64 j ∧ v = .int .i64 (k + j) ∧ Hid (OwnI base wr (.slice (some ⟨g, 0, none⟩) n cap) (marks k j ++ xs.drop j)) ∧ Below base w wr) (fun _ i _ => n - (intOf i).toNat)
    case atStart => exact ⟨0, Nat.zero_le _, rfl, by simp, by simpa [marks] using H, hb0⟩
    case round =>
      obtain ⟨j, hj, rfl, rfl, hown, hbw⟩ := hrel
      have hlen : (marks k j ++ xs.drop j).length = n := by have := HN.out; rw [List.length_append, marks_length, List.length_drop]; omega
      by_cases hlt : j < n
      · have hlt' : (j : Int) < (n : Int) := by omega
        have hset := OwnI.set hlen hown.out j (k + j)
        rw [marks_set k xs j (by rw [HN.out]; exact hlt)] at hset
        have hcells := hown.out.cells
        have hfz : wr.frozen? ⟨g, j, none⟩ = false := World.ownsRow.frozenAt (by have := hown.out; unfold OwnI at this; rw [hlen] at this; exact this) j
        obtain ⟨x, hcell⟩ : ∃ x, wr.cell? ⟨g, j, none⟩ = some x := by
          have h1 := hown.out
          unfold OwnI at h1
          rw [hlen] at h1
          have := World.ownsRow.cellAt h1 j (by omega)
          rw [this]
          exact ⟨_, List.getElem?_eq_getElem (by rw [List.length_map, hlen]; exact hlt)⟩
        have hbw' : Below base w (wr.setCell ⟨g, j, none⟩ (.int .i64 (k + j))) := hbw.setCell (by exact hb1) _
        have HSET := Lib.hid hset
        clear hset hcells
        go_wp2_with fail
        go_roundw
        case rel => exact ⟨j + 1, by omega, by go_num, by go_num, HSET, hbw'⟩
        case measure => simp [intOf]; omega
      · obtain rfl : j = n := by omega
        have hend : Hid (OwnI base wr (.slice (some ⟨g, 0, none⟩) j cap) (marks k j)) := by
          have h1 := hown.out
          rw [List.drop_of_length_le (by rw [HN.out]; exact Nat.le_refl _), List.append_nil] at h1
          exact h1
        go_wp2_with fail
        go_ret
        exact ⟨rfl, hend.out, hbw⟩

end Go.Proofs.Yteflpaebckichaa

/-! ArgI -/
namespace Go.Proofs.Yteflpaebckichaa
open Go.RowKit

/-- A slice of integers that came in: it is nil, or leads to a row of 'cap' cells, the first 'len' of which are its elements. -/
def IsInts (w : World) (a : Option Addr) (len cap : Nat) (ss : List Int) : Prop :=
  (a = none ∧ len = 0 ∧ cap = 0 ∧ ss = []) ∨
  ∃ x, a = some x ∧ len ≤ cap ∧ cap ≤ maxLen ∧ ss.length = cap ∧ (∀ i, i < ss.length → w.cell? (x.add i) = some (.int .i64 (ss.getD i 0))) ∧ ∀ s ∈ ss, (Lit.int .i64 s).wf = true

/-- What can be read of a slice of integers: the cells from an address on. -/
def ReadI (w : World) (g off : Nat) (ss : List Int) : Prop := ∀ i, i < ss.length → w.cell? ⟨g, off + i, none⟩ = some (.int .i64 (ss.getD i 0))

theorem ReadI.keep {w w' : World} {g off : Nat} {ss : List Int} (h : ReadI w g off ss) (hb : Below w.heap.size w w') : ReadI w' g off ss := by
  intro i hi
  have := h i hi
  exact (hb.cell (p := ⟨g, off + i, none⟩) (World.block_lt_of_cell? w _ this)).trans this

/-- The slice as the walks take it: empty, or readable from an address on. -/
def InI (w : World) (a : Option Addr) (ss : List Int) : Prop := ss = [] ∨ ∃ g off, a = some ⟨g, off, none⟩ ∧ ReadI w g off ss

theorem IsInts.inI {w : World} {a : Option Addr} {len cap : Nat} {ss : List Int} (h : IsInts w a len cap ss) : InI w a (ss.take len) ∧ (ss.take len).length = len ∧ (len : Int) ≤ 9223372036854775807 ∧ ∀ s ∈ ss.take len, -9223372036854775808 ≤ s ∧ s ≤ 9223372036854775807 := by
  rcases h with ⟨rfl, rfl, rfl, rfl⟩ | ⟨x, rfl, h1, h2, h3, h4, h5⟩
  · exact ⟨.inl rfl, rfl, by omega, by simp⟩
  · have hl : (ss.take len).length = len := by rw [List.length_take]; omega
    unfold maxLen at h2
    refine ⟨?_, hl, by omega, fun s hs => i64_bounds (h5 s (List.mem_of_mem_take hs))⟩
    by_cases h0 : len = 0
    · left; subst h0; rfl
    · right
      obtain ⟨b, off, spot⟩ := x
      have hc := h4 0 (by omega)
      have hspot : spot = none := by simpa [Addr.add] using World.cell?_spot hc
      subst hspot
      refine ⟨b, off, rfl, fun i hi => ?_⟩
      rw [hl] at hi
      have := h4 i (by omega)
      have e : (⟨b, off, none⟩ : Addr).add i = ⟨b, off + i, none⟩ := by
        unfold Addr.add
        split
        · next h => rw [h]; simp
        · rfl
      rw [e] at this
      rw [this]
      simp [List.getD_eq_getElem?_getD, hi]

theorem InI.keep {w w' : World} {a : Option Addr} {ss : List Int} (h : InI w a ss) (hb : Below w.heap.size w w') : InI w' a ss := by
  rcases h with h | ⟨g, off, rfl, hr⟩
  · exact .inl h
  · exact .inr ⟨g, off, rfl, hr.keep hb⟩

/-- A call that hands back a copy, in new memory. -/
def CopyOfI (ss : List Int) (n : Nat) (w : World) (e : Ending) (w' : World) : Prop :=
  ∃ g : Nat, OwnI w.heap.size w' (.slice (some ⟨g, 0, none⟩) n n) ss ∧ Below w.heap.size w w' ∧ e = .returned (.slice (some ⟨g, 0, none⟩) n n)

theorem madeCells_int (n : Nat) : (madeCells (Value.int .i64 0).cells (n * 1)).toList = (List.replicate n (0 : Int)).map (Value.int .i64) := by
  rw [List.map_replicate, Nat.mul_one]
  exact toList_madeCells_one _ _

end Go.Proofs.Yteflpaebckichaa

/-! MarkG -/
namespace Go.Proofs.Yteflpaebckichaa
open Go.RowKit

/-- A call that hands back a number, and leaves the slice in block g with other numbers; no other block turns. -/
def MarkedG (base : Nat) (g : Nat) (r : Int) (v : Value) (xs : List Int) (w : World) (e : Ending) (w' : World) : Prop := e = .returned (.int .i64 r) ∧ OwnI base w' v xs ∧ w.grownBy w' (some g)

theorem grown_refl (w : World) (r : Option Nat) : w.grownBy w r := ⟨rfl, rfl, rfl, Nat.le_refl _, fun _ _ _ => rfl⟩
theorem grown_trans {a b c : World} {r : Option Nat} (h : a.grownBy b r) (k : b.grownBy c r) : a.grownBy c r :=
  ⟨k.os.trans h.os, k.tape.trans h.tape, k.output.trans h.output, Nat.le_trans h.size k.size, fun i hi hn => (k.block i (Nat.lt_of_lt_of_le hi h.size) hn).trans (h.block i hi hn)⟩
theorem OwnI.kept {base : Nat} {w w' : World} {v : Value} {xs : List Int} {g : Nat} (h : OwnI base w v xs) (hg : w.grownBy w' (some g)) (hne : g < base) : OwnI base w' v xs := by
  refine World.ownsRow.kept h hg ?_
  rcases h.2 with ⟨hv, _⟩ | ⟨g', cap, cur, hv, hb, _⟩
  · subst hv; exact .inl rfl
  · subst hv; right; simp only [Value.ownBlock]; intro e; injection e with e; omega
theorem OwnI.lt {base : Nat} {w : World} {g n cap : Nat} {xs : List Int} (h : OwnI base w (.slice (some ⟨g, 0, none⟩) n cap) xs) : base ≤ g ∧ g < w.heap.size := World.ownsRow.lt h g rfl
theorem grown_below {w w' : World} {g B : Nat} (h : w.grownBy w' (some g)) (hB : B ≤ w.heap.size) (hg : B ≤ g) : Below B w w' := (Below.refl _ _).grown h hB (fun k hk => by injection hk with hk; omega)
theorem OwnI.up {base : Nat} {w : World} {g n cap : Nat} {xs : List Int} (h : OwnI base w (.slice (some ⟨g, 0, none⟩) n cap) xs) : OwnI g w (.slice (some ⟨g, 0, none⟩) n cap) xs := by
  refine ⟨h.1, ?_⟩
  rcases h.2 with ⟨hv, hn⟩ | ⟨g', cap', cur, hv, hb, r⟩
  · cases hv
  · cases hv
    exact .inr ⟨g, cap, cur, rfl, Nat.le_refl _, r⟩

set_option maxHeartbeats 1000000 in
theorem markIntS_one (base : Nat) (g cap n : Nat) (xs : List Int) (hn : xs.length = n) (k : Int) (w : World) (hk0 : 0 ≤ k) (hk1 : k ≤ 1000000000) (hn9 : n ≤ 1000000000) (h : OwnI base w (.slice (some ⟨g, 0, none⟩) n cap) xs) :
    Calls Try.prog 16 #[.slice (some ⟨g, 0, none⟩) n cap, .int .i64 k] w (MarkedG base g (k + n) (.slice (some ⟨g, 0, none⟩) n cap) (marks k n) w) := by
  have hb0 := grown_refl w (some g)
  have H := Lib.hid h
  have HN := Lib.hid hn
  clear h hn
  go_enter Try.func16, Try.ntmps16
  go_wp2_with fail
  go_loopw [1, 5] (fun v i wr => ∃ j : Nat, j ≤ n ∧ i = .int .i64 j ∧ v = .int .i64 (k + j) ∧ Hid (OwnI base wr (.slice (some ⟨g, 0, none⟩) n cap) (marks k j ++ xs.drop j)) ∧ w.grownBy wr (some g)) (fun _ i _ => n - (intOf i).toNat)
  case atStart => exact ⟨0, Nat.zero_le _, rfl, by simp, by simpa [marks] using H, hb0⟩
  case round =>
    obtain ⟨j, hj, rfl, rfl, hown, hbw⟩ := hrel
    have hlen : (marks k j ++ xs.drop j).length = n := by have := HN.out; rw [List.length_append, marks_length, List.length_drop]; omega
    by_cases hlt : j < n
    · have hlt' : (j : Int) < (n : Int) := by omega
      have hset := OwnI.set hlen hown.out j (k + j)
      rw [marks_set k xs j (by rw [HN.out]; exact hlt)] at hset
      have hrow := hown.out
      unfold OwnI at hrow
      rw [hlen] at hrow
      have hfz : wr.frozen? ⟨g, j, none⟩ = false := World.ownsRow.frozenAt hrow j
      obtain ⟨x, hcell⟩ : ∃ x, wr.cell? ⟨g, j, none⟩ = some x := by
        have := World.ownsRow.cellAt hrow j (by omega)
        rw [this]
        exact ⟨_, List.getElem?_eq_getElem (by rw [List.length_map, hlen]; exact hlt)⟩
      have hbw' : w.grownBy (wr.setCell ⟨g, j, none⟩ (.int .i64 (k + j))) (some g) := grown_trans hbw (World.ownsRow.stored hrow j _).2
      have HSET := Lib.hid hset
      clear hset hrow
      go_wp2_with fail
      go_roundw
      case rel => exact ⟨j + 1, by omega, by go_num, by go_num, HSET, hbw'⟩
      case measure => simp [intOf]; omega
    · obtain rfl : j = n := by omega
      have hend : Hid (OwnI base wr (.slice (some ⟨g, 0, none⟩) j cap) (marks k j)) := by
        have h1 := hown.out
        rw [List.drop_of_length_le (by rw [HN.out]; exact Nat.le_refl _), List.append_nil] at h1
        exact h1
      go_wp2_with fail
      go_ret
      exact ⟨rfl, hend.out, hbw⟩
end Go.Proofs.Yteflpaebckichaa

/-! Form -/
namespace Go.Proofs.Yteflpaebckichaa
open Go.RowKit

theorem CellsI.form {b1 : Nat} {w : World} {v : Value} {xs : List Int} (h : CellsI b1 w v xs) :
    ∃ oa cap, v = .slice oa xs.length cap ∧ xs.length ≤ cap ∧ cap ≤ maxLen ∧ ∀ i, i < xs.length → ∃ g, oa = some ⟨g, 0, none⟩ ∧ b1 ≤ g ∧ g < w.heap.size ∧ w.cell? ⟨g, i, none⟩ = some (.int .i64 (xs.getD i 0)) := by
  rcases h with ⟨rfl, rfl⟩ | ⟨g, cap, rfl, h1, h2, h3, h4, h5, _⟩
  · exact ⟨none, 0, rfl, Nat.le_refl _, Nat.zero_le _, fun i hi => by simp at hi⟩
  · exact ⟨some ⟨g, 0, none⟩, cap, rfl, h3, h4, fun i hi => ⟨g, rfl, h1, h2, h5 i hi⟩⟩

end Go.Proofs.Yteflpaebckichaa

/-! Wd1 -/
namespace Go.Proofs.Yteflpaebckichaa
open Go.RowKit

theorem decide_lt_false {a b : Int} (h : b ≤ a) : decide (a < b) = false := by simp; omega

/-- Contracts that say that nothing turns, as those that may make memory. -/
theorem gives_of {P : Program} {f : FuncId} {args : Array Value} {w : World} {v : Value} (h : Calls P f args w fun e w' => e = .returned v ∧ w = w') : Calls P f args w (Gives v w) := h.mono fun _ _ ⟨he, hw⟩ => ⟨he, by rw [← hw]; exact Below.refl _ _⟩
end Go.Proofs.Yteflpaebckichaa

/-! Wd4n -/
namespace Go.Proofs.Yteflpaebckichaa
open Go.RowKit
theorem numberOf_any (x : Int) (w : World) (h1 : -1000 ≤ x) (h2 : x ≤ 1000) :
    Calls Try.prog 92 #[.int .i64 x] w fun e w' => e = .returned (.int .i64 (num x)) ∧ w = w' := by
  unfold num
  by_cases h : x < 0
  · rw [if_pos h]
    have h' : x < -x := by omega
    go_enter Try.func92, Try.ntmps92
    go_wp2_with fail
    go_ret
    exact ⟨ret_int (by try omega), rfl⟩
  · rw [if_neg h]
    go_enter Try.func92, Try.ntmps92
    go_wp2_with fail
    go_ret
    exact ⟨ret_int (by try omega), rfl⟩
end Go.Proofs.Yteflpaebckichaa

/-! PairOf -/
namespace Go.Proofs.Yteflpaebckichaa

/-- The pair of two texts, if they are one. -/
def pairOf (a b : ByteArray) : Option Pr :=
  match treeOf a, treeOf b with
  | some t, some u => if t.carets = u.carets then some (t, u) else none
  | _, _ => none

theorem pairOf_some {a b : ByteArray} {p : Pr} (h : pairOf a b = some p) : a = p.1.str ∧ b = p.2.str ∧ okP p ∧ p.1.carets ≤ 8 ∧ p.2.carets ≤ 8 := by
  unfold pairOf at h
  split at h
  · next t u ht hu =>
    split at h
    · next hc =>
      injection h with h
      subst h
      obtain ⟨rfl, h1⟩ := treeOf_some ht
      obtain ⟨rfl, h2⟩ := treeOf_some hu
      exact ⟨rfl, rfl, hc, h1, h2⟩
    · simp at h
  · simp at h

theorem pairOf_str {p : Pr} (h : okP p) (k : p.1.carets ≤ 8) : pairOf p.1.str p.2.str = some p := by
  unfold pairOf
  rw [treeOf_str p.1 k, treeOf_str p.2 (by unfold okP at h; omega)]
  simp [show p.1.carets = p.2.carets from h]

/-- The texts are no pair: why. -/
theorem pairOf_none {a b : ByteArray} (h : pairOf a b = none) : treeOf a = none ∨ (∃ t : Tr, a = t.str ∧ t.carets ≤ 8 ∧ treeOf b = none) ∨ ∃ t u : Tr, a = t.str ∧ b = u.str ∧ t.carets ≤ 8 ∧ u.carets ≤ 8 ∧ ¬ t.carets = u.carets := by
  cases ha : treeOf a with
  | none => exact .inl rfl
  | some t =>
    obtain ⟨rfl, h1⟩ := treeOf_some ha
    cases hb : treeOf b with
    | none => exact .inr (.inl ⟨t, rfl, h1, rfl⟩)
    | some u =>
      obtain ⟨rfl, h2⟩ := treeOf_some hb
      refine .inr (.inr ⟨t, u, rfl, rfl, h1, h2, ?_⟩)
      intro e
      unfold pairOf at h
      rw [ha, hb] at h
      simp [e] at h
end Go.Proofs.Yteflpaebckichaa

/-! Cut -/
namespace Go.Proofs.Yteflpaebckichaa
open Go.RowKit


theorem hasPrefix_one (s : ByteArray) (c : UInt8) (w : World) (hs : s.size ≤ 9223372036854775806) :
    Calls Try.prog 90 #[.string s, .string ⟨#[c]⟩] w fun e w' => e = .returned (.bool (s.data.toList.head? == some c)) ∧ w = w' := by
  by_cases h : 1 ≤ s.size
  all_goals
    go_enter Try.func90, Try.ntmps90
    go_wp2
    go_ret
  · refine ⟨ret_bool ?_, rfl⟩
    rw [Lib.extract_toList]
    cases hl : s.data.toList <;> simp
  · refine ⟨ret_bool ?_, rfl⟩
    have : s.data.toList.length = 0 := by rw [← Lib.size_eq]; omega
    rw [List.length_eq_zero_iff.1 this]
    rfl

def CutOk (s : ByteArray) (r : List UInt8) (w : World) (e : Ending) (w' : World) : Prop :=
  ∃ s' : ByteArray, s'.data.toList = r ∧ s'.size < s.size ∧ e = .returned (.tuple #[.string s', .bool true]) ∧ w = w'

theorem stringsliteCut_yes (s : ByteArray) (c : UInt8) (r : List UInt8) (w : World) (hs : s.size ≤ 9223372036854775806) (h : s.data.toList = c :: r) :
    Calls Try.prog 109 #[.string s, .string ⟨#[c]⟩] w (CutOk s r w) := by
  have hz : 1 ≤ s.size := by rw [Lib.size_eq, h]; simp
  have hb : (s.data.toList.head? == some c) = true := by simp [h]
  have H := Lib.hid h
  clear h
  go_enter Try.func109, Try.ntmps109
  go_wp2_with (go_at_call 90; refine (hasPrefix_one s c _ hs).mono ?_; rintro e w' ⟨rfl, rfl⟩)
  go_ret2
  refine ⟨_, ?_, ?_, rfl, rfl⟩
  · rw [Lib.extract_data, H.out, List.take_of_length_le]
    · rfl
    · rw [Lib.size_eq, H.out]; simp
  · rw [Lib.size_eq, Lib.extract_data, Lib.size_eq, H.out]; simp

theorem stringsliteCut_no (s : ByteArray) (c : UInt8) (w : World) (hs : s.size ≤ 9223372036854775806) (h : (s.data.toList.head? == some c) = false) :
    Calls Try.prog 109 #[.string s, .string ⟨#[c]⟩] w fun e w' => e = .returned (.tuple #[.string s, .bool false]) ∧ w = w' := by
  go_enter Try.func109, Try.ntmps109
  go_wp2_with (go_at_call 90; refine (hasPrefix_one s c _ hs).mono ?_; rintro e w' ⟨rfl, rfl⟩)
  go_ret2
  exact ⟨rfl, rfl⟩

theorem cut_yes (s : ByteArray) (c : UInt8) (r : List UInt8) (w : World) (hs : s.size ≤ 9223372036854775806) (h : s.data.toList = c :: r) :
    Calls Try.prog 98 #[.string s, .string ⟨#[c]⟩] w (CutOk s r w) := by
  have H := Lib.hid h
  clear h
  go_enter Try.func98, Try.ntmps98
  go_wp2_with (go_at_call 109; refine (stringsliteCut_yes s c r _ hs H.out).mono ?_; rintro e w' ⟨s', h1, h2, rfl, rfl⟩; have H1 := Lib.hid h1; clear h1)
  go_ret2
  exact ⟨_, H1.out, h2, rfl, rfl⟩

theorem cut_no (s : ByteArray) (c : UInt8) (w : World) (hs : s.size ≤ 9223372036854775806) (h : (s.data.toList.head? == some c) = false) :
    Calls Try.prog 98 #[.string s, .string ⟨#[c]⟩] w fun e w' => e = .returned (.tuple #[.string s, .bool false]) ∧ w = w' := by
  go_enter Try.func98, Try.ntmps98
  go_wp2_with (go_at_call 109; refine (stringsliteCut_no s c _ hs h).mono ?_; rintro e w' ⟨rfl, rfl⟩)
  go_ret2
  exact ⟨rfl, rfl⟩
end Go.Proofs.Yteflpaebckichaa

/-! Node -/
namespace Go.Proofs.Yteflpaebckichaa
open Go.RowKit

/-- Block b is a node of the tree, and so on down. -/
def NodeAt (w : World) : Tr → Nat → Prop
  | .lf, b => w.heap[b]? = some (.cells #[.pointer none, .pointer none] 111 (0, 0))
  | .nd l r, b => ∃ bl br, w.heap[b]? = some (.cells #[.pointer (some ⟨bl, 0, none⟩), .pointer (some ⟨br, 0, none⟩)] 111 (0, 0)) ∧ NodeAt w l bl ∧ NodeAt w r br

theorem NodeAt.lt {w : World} {t : Tr} {b : Nat} (h : NodeAt w t b) : b < w.heap.size := by
  cases t with
  | lf => exact lt_of_block h
  | nd l r => obtain ⟨_, _, h, _⟩ := h; exact lt_of_block h

theorem NodeAt.keep {w w' : World} (hb : Below w.heap.size w w') : ∀ {t : Tr} {b : Nat}, NodeAt w t b → NodeAt w' t b := by
  intro t
  induction t with
  | lf => intro b h; exact (hb.block b h.lt).trans h
  | nd l r ihl ihr =>
    intro b h
    have hl := h.lt
    obtain ⟨bl, br, h, h1, h2⟩ := h
    exact ⟨bl, br, (hb.block b hl).trans h, ihl h1, ihr h2⟩

theorem two_left {w : World} {b : Nat} {u v : Value} {t : TypeId} (h : w.heap[b]? = some (.cells #[u, v] t (0, 0))) : w.cell? ⟨b, 0, none⟩ = some u := by simp [World.cell?, h]
theorem two_right {w : World} {b : Nat} {u v : Value} {t : TypeId} (h : w.heap[b]? = some (.cells #[u, v] t (0, 0))) : w.cell? ⟨b, 1, none⟩ = some v := by simp [World.cell?, h]

theorem heap_alloc_at (w : World) (o : Obj) : (w.alloc o).heap[w.heap.size]? = some o := by
  show (w.heap.push o)[w.heap.size]? = _
  simp

theorem node_new {w1 w2 : World} {l r : Tr} {b1 b2 : Nat} (h1 : NodeAt w1 l b1) (hb : Below w1.heap.size w1 w2) (h2 : NodeAt w2 r b2) :
    NodeAt (w2.alloc (.cells #[.pointer (some ⟨b1, 0, none⟩), .pointer (some ⟨b2, 0, none⟩)] 111 (0, 0))) (.nd l r) w2.heap.size := by
  have hb3 : Below w2.heap.size w2 (w2.alloc (.cells #[.pointer (some ⟨b1, 0, none⟩), .pointer (some ⟨b2, 0, none⟩)] 111 (0, 0))) := (Below.refl _ _).alloc (Nat.le_refl _) _
  exact ⟨b1, b2, heap_alloc_at _ _, (h1.keep hb).keep hb3, h2.keep hb3⟩

/-- What readPlace leaves where there is a tree. -/
def PlaceOk (t : Tr) (r : List UInt8) (s : ByteArray) (w : World) (e : Ending) (w' : World) : Prop :=
  ∃ (b : Nat) (s' : ByteArray), s'.data.toList = r ∧ s'.size < s.size ∧ NodeAt w' t b ∧ Below w.heap.size w w' ∧ e = .returned (.tuple #[.pointer (some ⟨b, 0, none⟩), .string s'])
def PlaceNo (w : World) (e : Ending) (w' : World) : Prop :=
  Below w.heap.size w w' ∧ e = .returned (.tuple #[.pointer none, .string ⟨#[]⟩])
def PlacePost (o : Option (Tr × List UInt8)) (s : ByteArray) (w : World) (e : Ending) (w' : World) : Prop :=
  match o with
  | some (t, r) => PlaceOk t r s w e w'
  | none => PlaceNo w e w'

end Go.Proofs.Yteflpaebckichaa

/-! Place -/
namespace Go.Proofs.Yteflpaebckichaa
open Go.RowKit

theorem head_of {l : List UInt8} {c : UInt8} (h : (l.head? == some c) = true) : ∃ r, l = c :: r := by
  cases l with
  | nil => simp at h
  | cons a r => simp at h; exact ⟨r, by rw [h]⟩

set_option maxHeartbeats 1000000 in
theorem place_any (k : Nat) : ∀ (s : ByteArray) (w : World), s.size < k → s.size ≤ 9223372036854775806 →
    Calls Try.prog 83 #[.string s] w (PlacePost (parseN k s.data.toList) s w) := by
  induction k with
  | zero => intro s w h; omega
  | succ k ih =>
    intro s w hk hs
    have ih_no : ∀ (s : ByteArray) (w : World), s.size < k → s.size ≤ 9223372036854775806 → parseN k s.data.toList = none → Calls Try.prog 83 #[.string s] w (PlaceNo w) := by
      intro s w h1 h2 h3
      have := ih s w h1 h2
      rw [h3] at this
      exact this
    have ih_yes : ∀ (s : ByteArray) (w : World) (t : Tr) (r : List UInt8), s.size < k → s.size ≤ 9223372036854775806 → parseN k s.data.toList = some (t, r) → Calls Try.prog 83 #[.string s] w (PlaceOk t r s w) := by
      intro s w t r h1 h2 h3
      have := ih s w h1 h2
      rw [h3] at this
      exact this
    clear ih
    cases h46 : (s.data.toList.head? == some 46) with
    | true =>
      obtain ⟨r, hr⟩ := head_of h46
      have HP : parseN (k + 1) s.data.toList = some (.lf, r) := by rw [hr, parseN, if_pos rfl]
      rw [HP]
      show Calls _ _ _ _ (PlaceOk .lf r s w)
      have HR := Lib.hid hr
      clear hr HP h46
      go_enter Try.func83, Try.ntmps83
      go_wp2_with (go_at_call 98; refine (cut_yes s _ r _ hs HR.out).mono ?_; rintro e w' ⟨s', h1, h2, rfl, rfl⟩; have H1 := Lib.hid h1; clear h1)
      go_ret2
      exact ⟨_, _, H1.out, h2, heap_alloc_at _ _, (Below.refl _ _).alloc (Nat.le_refl _) _, rfl⟩
    | false =>
      cases h40 : (s.data.toList.head? == some 40) with
      | false =>
        have HP : parseN (k + 1) s.data.toList = none := by
          cases hl : s.data.toList with
          | nil => rfl
          | cons c r =>
            rw [hl] at h46 h40
            have h1 : ¬ c = 46 := by simpa using h46
            have h2 : ¬ c = 40 := by simpa using h40
            rw [parseN, if_neg h1, if_neg h2]
        rw [HP]
        show Calls _ _ _ _ (PlaceNo w)
        go_enter Try.func83, Try.ntmps83
        go_wp2_with fail
        refine (cut_no s 46 _ hs h46).mono ?_; rintro e w' ⟨rfl, rfl⟩
        go_wp2_with fail
        refine (cut_no s 40 _ hs h40).mono ?_; rintro e w' ⟨rfl, rfl⟩
        go_wp2_with fail
        go_ret2
        exact ⟨Below.refl _ _, rfl⟩
      | true =>
        obtain ⟨r, hr⟩ := head_of h40
        have HR := Lib.hid hr
        have hz : s.size = r.length + 1 := by rw [Lib.size_eq, hr]; rfl
        have HZ := Lib.hid hz
        clear h40 hz
        cases hp1 : parseN k r with
        | none =>
          have HP : parseN (k + 1) s.data.toList = none := by rw [hr, parseN, if_neg (by decide), if_pos rfl, hp1]
          rw [HP]
          show Calls _ _ _ _ (PlaceNo w)
          have H1 := Lib.hid hp1
          clear HP hr hp1
          go_enter Try.func83, Try.ntmps83
          go_wp2_with fail
          refine (cut_no s 46 _ hs h46).mono ?_; rintro e w' ⟨rfl, rfl⟩
          go_wp2_with fail
          refine (cut_yes s 40 r _ hs HR.out).mono ?_; rintro e w' ⟨s1, hs1, hz1, rfl, rfl⟩; have HS1 := Lib.hid hs1; clear hs1
          go_wp2_with fail
          refine (ih_no s1 _ (by omega) (by omega) (by rw [HS1.out]; exact H1.out)).mono ?_; rintro e w1 ⟨hb1, rfl⟩
          go_wp2_with fail
          go_ret2
          exact ⟨hb1, rfl⟩
        | some p1 =>
          obtain ⟨t1, r1⟩ := p1
          have hl1 := parseN_len hp1
          cases hp2 : parseN k r1 with
          | none =>
            have HP : parseN (k + 1) s.data.toList = none := by rw [hr, parseN, if_neg (by decide), if_pos rfl, hp1]; show (match parseN k r1 with | none => none | some (t2, r2) => _) = _; rw [hp2]
            rw [HP]
            show Calls _ _ _ _ (PlaceNo w)
            have H1 := Lib.hid hp1
            have H2 := Lib.hid hp2
            clear HP hr hp1 hp2
            go_enter Try.func83, Try.ntmps83
            go_wp2_with fail
            refine (cut_no s 46 _ hs h46).mono ?_; rintro e w' ⟨rfl, rfl⟩
            go_wp2_with fail
            refine (cut_yes s 40 r _ hs HR.out).mono ?_; rintro e w' ⟨s1, hs1, hz1, rfl, rfl⟩; have HS1 := Lib.hid hs1; clear hs1
            go_wp2_with fail
            refine (ih_yes s1 _ _ _ (by omega) (by omega) (by rw [HS1.out]; exact H1.out)).mono ?_; rintro e w1 ⟨b1, s2, hs2, hz2, hn1, hb1, rfl⟩; have HS2 := Lib.hid hs2; clear hs2
            go_wp2_with fail
            refine (ih_no s2 _ (by omega) (by omega) (by rw [HS2.out]; exact H2.out)).mono ?_; rintro e w2 ⟨hb2, rfl⟩
            go_wp2_with fail
            go_ret2
            exact ⟨hb1.trans (hb2.mono hb1.size), rfl⟩
          | some p2 =>
            obtain ⟨t2, r2⟩ := p2
            have hl2 := parseN_len hp2
            cases h41 : (r2.head? == some 41) with
            | false =>
              have HP : parseN (k + 1) s.data.toList = none := by
                rw [hr, parseN, if_neg (by decide), if_pos rfl, hp1]
                show (match parseN k r1 with | none => none | some (t2, r2) => _) = _
                rw [hp2]
                cases r2 with
                | nil => rfl
                | cons c r3 =>
                  have h1 : ¬ c = 41 := by simpa using h41
                  simp [h1]
              rw [HP]
              show Calls _ _ _ _ (PlaceNo w)
              have H1 := Lib.hid hp1
              have H2 := Lib.hid hp2
              have H3 := Lib.hid h41
              clear HP hr hp1 hp2 h41
              go_enter Try.func83, Try.ntmps83
              go_wp2_with fail
              refine (cut_no s 46 _ hs h46).mono ?_; rintro e w' ⟨rfl, rfl⟩
              go_wp2_with fail
              refine (cut_yes s 40 r _ hs HR.out).mono ?_; rintro e w' ⟨s1, hs1, hz1, rfl, rfl⟩; have HS1 := Lib.hid hs1; clear hs1
              go_wp2_with fail
              refine (ih_yes s1 _ _ _ (by omega) (by omega) (by rw [HS1.out]; exact H1.out)).mono ?_; rintro e w1 ⟨b1, s2, hs2, hz2, hn1, hb1, rfl⟩; have HS2 := Lib.hid hs2; clear hs2
              go_wp2_with fail
              refine (ih_yes s2 _ _ _ (by omega) (by omega) (by rw [HS2.out]; exact H2.out)).mono ?_; rintro e w2 ⟨b2, s3, hs3, hz3, hn2, hb2, rfl⟩; have HS3 := Lib.hid hs3; clear hs3
              go_wp2_with fail
              refine (cut_no s3 41 _ (by omega) (by rw [HS3.out]; exact H3.out)).mono ?_; rintro e w' ⟨rfl, rfl⟩
              go_wp2_with fail
              go_ret2
              exact ⟨hb1.trans (hb2.mono hb1.size), rfl⟩
            | true =>
              obtain ⟨r3, hr3⟩ := head_of h41
              have HP : parseN (k + 1) s.data.toList = some (.nd t1 t2, r3) := by
                rw [hr, parseN, if_neg (by decide), if_pos rfl, hp1]
                show (match parseN k r1 with | none => none | some (t2, r2) => _) = _
                rw [hp2, hr3]
                simp
              rw [HP]
              show Calls _ _ _ _ (PlaceOk (.nd t1 t2) r3 s w)
              have H1 := Lib.hid hp1
              have H2 := Lib.hid hp2
              have H3 := Lib.hid hr3
              clear HP hr hp1 hp2 h41 hr3
              go_enter Try.func83, Try.ntmps83
              go_wp2_with fail
              refine (cut_no s 46 _ hs h46).mono ?_; rintro e w' ⟨rfl, rfl⟩
              go_wp2_with fail
              refine (cut_yes s 40 r _ hs HR.out).mono ?_; rintro e w' ⟨s1, hs1, hz1, rfl, rfl⟩; have HS1 := Lib.hid hs1; clear hs1
              go_wp2_with fail
              refine (ih_yes s1 _ _ _ (by omega) (by omega) (by rw [HS1.out]; exact H1.out)).mono ?_; rintro e w1 ⟨b1, s2, hs2, hz2, hn1, hb1, rfl⟩; have HS2 := Lib.hid hs2; clear hs2
              go_wp2_with fail
              refine (ih_yes s2 _ _ _ (by omega) (by omega) (by rw [HS2.out]; exact H2.out)).mono ?_; rintro e w2 ⟨b2, s3, hs3, hz3, hn2, hb2, rfl⟩; have HS3 := Lib.hid hs3; clear hs3
              go_wp2_with fail
              refine (cut_yes s3 41 r3 _ (by omega) (by rw [HS3.out]; exact H3.out)).mono ?_; rintro e w' ⟨s4, hs4, hz4, rfl, rfl⟩; have HS4 := Lib.hid hs4; clear hs4
              go_wp2_with fail
              go_ret2
              have hb3 : Below w2.heap.size w2 (w2.alloc (.cells #[.pointer (some ⟨b1, 0, none⟩), .pointer (some ⟨b2, 0, none⟩)] 111 (0, 0))) := (Below.refl _ _).alloc (Nat.le_refl _) _
              exact ⟨_, _, HS4.out, by omega, ⟨b1, b2, heap_alloc_at _ _, (hn1.keep hb2).keep hb3, hn2.keep hb3⟩, (hb1.trans (hb2.mono hb1.size)).trans (hb3.mono (Nat.le_trans hb1.size hb2.size)), rfl⟩
end Go.Proofs.Yteflpaebckichaa

/-! Read -/
namespace Go.Proofs.Yteflpaebckichaa
open Go.RowKit

def ReadOk (t : Tr) (w : World) (e : Ending) (w' : World) : Prop :=
  ∃ b : Nat, NodeAt w' t b ∧ Below w.heap.size w w' ∧ e = .returned (.tuple #[.pointer (some ⟨b, 0, none⟩), .bool true])
def ReadNo (w : World) (e : Ending) (w' : World) : Prop :=
  Below w.heap.size w w' ∧ e = .returned (.tuple #[.pointer none, .bool false])

theorem treeOf_of_parse {s : ByteArray} {t : Tr} (h : parseN (s.size + 1) s.data.toList = some (t, [])) (hz : s.size ≤ 25) : treeOf s = some t := by
  have e := str_of_list (show s.data.toList = t.text by simpa using parseN_sound _ _ _ _ h)
  subst e
  exact treeOf_str t (by rw [Tr.str_size] at hz; omega)

theorem read_yes (t : Tr) (w : World) (h : t.carets ≤ 8) :
    Calls Try.prog 69 #[.string t.str] w (ReadOk t w) := by
  have hz := t.str_size
  have hp := place_any (t.str.size + 1) t.str
  rw [parse_str t _ (by have := t.text_len; omega)] at hp
  have hp' : ∀ w, Calls Try.prog 83 #[.string t.str] w (PlaceOk t [] t.str w) := fun w => hp w (by omega) (by omega)
  have hz' : t.str.size ≤ 25 := by omega
  clear hz hp
  go_enter Try.func69, Try.ntmps69
  go_wp2_with fail
  refine (hp' _).mono ?_; rintro e w1 ⟨b1, s1, hs1, hz1, hn1, hb1, rfl⟩; have e1 : s1.toList.isEmpty = true := by rw [Lib.toList_data, hs1]; rfl
  have e2 : s1.toList = [] := by rw [Lib.toList_data, hs1]
  clear hs1
  go_wp2_with fail
  go_ret2
  exact ⟨b1, hn1, hb1, rfl⟩

theorem read_no (s : ByteArray) (w : World) (hs : s.size ≤ 9223372036854775806) (h : treeOf s = none) :
    Calls Try.prog 69 #[.string s] w (ReadNo w) := by
  by_cases hz : (s.size : Int) ≤ 25
  · have hp := place_any (s.size + 1) s
    cases hq : parseN (s.size + 1) s.data.toList with
    | none =>
      rw [hq] at hp
      have hp' : ∀ w, Calls Try.prog 83 #[.string s] w (PlaceNo w) := fun w => hp w (by omega) hs
      clear hp h hq
      go_enter Try.func69, Try.ntmps69
      go_wp2_with fail
      refine (hp' _).mono ?_; rintro e w1 ⟨hb1, rfl⟩
      go_wp2_with fail
      go_ret2
      exact ⟨hb1, rfl⟩
    | some p =>
      obtain ⟨t, r⟩ := p
      rw [hq] at hp
      have hp' : ∀ w, Calls Try.prog 83 #[.string s] w (PlaceOk t r s w) := fun w => hp w (by omega) hs
      cases r with
      | nil => rw [treeOf_of_parse hq (by omega)] at h; simp at h
      | cons c r =>
        clear hp h hq
        go_enter Try.func69, Try.ntmps69
        go_wp2_with fail
        refine (hp' _).mono ?_; rintro e w1 ⟨b1, s1, hs1, hz1, hn1, hb1, rfl⟩; have e1 : s1.toList.isEmpty = false := by rw [Lib.toList_data, hs1]; rfl
        clear hs1
        go_wp2_with fail
        go_ret2
        exact ⟨hb1, rfl⟩
  · clear h
    go_enter Try.func69, Try.ntmps69
    go_wp2_with fail
    go_ret2
    exact ⟨Below.refl _ _, rfl⟩

theorem implIsTree_yes (t : Tr) (w : World) (h : t.carets ≤ 8) :
    Calls Try.prog 50 #[.string t.str] w fun e w' => Below w.heap.size w w' ∧ e = .returned (.bool true) := by
  go_enter Try.func50, Try.ntmps50
  go_wp2_with fail
  refine (read_yes t _ h).mono ?_; rintro e w1 ⟨b1, hn1, hb1, rfl⟩
  go_wp2_with fail
  go_ret
  exact ⟨hb1, rfl⟩

theorem implIsTree_no (s : ByteArray) (w : World) (hs : s.size ≤ 9223372036854775806) (h : treeOf s = none) :
    Calls Try.prog 50 #[.string s] w fun e w' => Below w.heap.size w w' ∧ e = .returned (.bool false) := by
  have H := Lib.hid h
  clear h
  go_enter Try.func50, Try.ntmps50
  go_wp2_with fail
  refine (read_no s _ hs H.out).mono ?_; rintro e w1 ⟨hb1, rfl⟩
  go_wp2_with fail
  go_ret
  exact ⟨hb1, rfl⟩

end Go.Proofs.Yteflpaebckichaa

/-! End -/
namespace Go.Proofs.Yteflpaebckichaa
open Go.RowKit


set_option maxHeartbeats 400000 in
theorem end_any (k : Nat) : ∀ (s : ByteArray) (a d : Int) (w : World), s.size ≤ 9223372036854775806 → 0 ≤ d → d + k = 61 → 0 ≤ a →
    Calls Try.prog 54 #[.string s, .int .i64 a, .int .i64 d] w fun e w' => e = .returned (.int .i64 (endI k s a)) ∧ w = w' := by
  induction k with
  | zero =>
    intro s a d w hs hd0 hd ha
    by_cases h : a < s.size
    all_goals
      go_enter Try.func54, Try.ntmps54
      go_wp2_with fail
      go_ret
      exact ⟨rfl, rfl⟩
  | succ k ih =>
    intro s a d w hs hd0 hd ha
    have b1 := endI_le k s (a + 1) (by omega)
    have b2 := fun h => endI_le k s (endI k s (a + 1)) h
    by_cases h : a < s.size
    · go_enter Try.func54, Try.ntmps54
      go_wp2_with (go_at_call 54; refine (ih s _ _ _ hs (by omega) (by omega) (by omega)).mono ?_; rintro e w' ⟨rfl, rfl⟩)
      all_goals
        go_ret
        refine ⟨ret_int ?_, rfl⟩
        go_light
        clear ih b2
        have e1 := byteAt_eq s a (by omega)
        have e2 := byteAt_eq s (endI k s (endI k s (a + 1)))
        simp only [beq_iff_eq, beq_eq_false_iff_ne, ne_eq, bne_iff_ne, bne_eq_false_iff_eq] at *
        rw [endI]
        repeat' split
        all_goals first | omega | (have := e2 (by omega); omega)
    · go_enter Try.func54, Try.ntmps54
      go_wp2_with fail
      go_ret
      exact ⟨ret_int (by rw [endI, if_neg (by omega)]), rfl⟩
end Go.Proofs.Yteflpaebckichaa

/-! Carets -/
namespace Go.Proofs.Yteflpaebckichaa
open Go.RowKit

set_option maxHeartbeats 400000 in
theorem carets_any (s : ByteArray) (w : World) (hs : s.size ≤ 9223372036854775806) :
    Calls Try.prog 34 #[.string s] w fun e w' => e = .returned (.int .i64 (cnt s s.size)) ∧ w = w' := by
  go_enter Try.func34, Try.ntmps34
  go_wp2
  go_loop [3, 4] (fun n i => ∃ k : Nat, k ≤ s.size ∧ i = .int .i64 k ∧ n = .int .i64 (cnt s k)) (fun _ i => s.size - (intOf i).toNat)
  case atStart => exact ⟨0, Nat.zero_le _, rfl, rfl⟩
  case round =>
    obtain ⟨k, hk, rfl, rfl⟩ := hrel
    have hc := cnt_le s k
    by_cases hlt : k < s.size
    · have e1 : Hid (byteAt s k = ((s[k]'hlt).toNat : Int)) := byteAt_eq s k hlt
      go_wp2
      all_goals
        go_round
        case rel => exact ⟨k + 1, by omega, by go_num, by rw [cnt, e1.out]; first | rw [if_pos (by simpa using ‹(_ == (40:Int)) = true›)] | (rw [if_neg (by simpa using ‹(_ == (40:Int)) = false›)]; go_num)⟩
        case measure => simp [intOf]; omega
    · obtain rfl : k = s.size := by omega
      go_wp2
      go_ret
      exact ⟨rfl, rfl⟩
set_option maxHeartbeats 400000 in
theorem trIs_any (s : ByteArray) (w : World) (hs : s.size ≤ 9223372036854775806) :
    Calls Try.prog 33 #[.string s] w fun e w' => e = .returned (.bool (isTreeB s)) ∧ w = w' := by
  have hc := cnt_le s s.size
  have he := endI_le 61 s 0 (by omega)
  by_cases a : (s.size : Int) ≤ 33 <;> by_cases b : cnt s s.size ≤ 8
  all_goals
    go_enter Try.func33, Try.ntmps33
    go_wp2_with (first | (go_at_call 34; refine (carets_any s _ hs).mono ?_; rintro e w' ⟨rfl, rfl⟩) | (go_at_call 54; refine (end_any 61 s _ _ _ hs (by omega) (by omega) (by omega)).mono ?_; rintro e w' ⟨rfl, rfl⟩))
    go_ret
    exact ⟨ret_bool (by unfold isTreeB; rw [Bool.eq_iff_iff]; simp; try omega), rfl⟩

end Go.Proofs.Yteflpaebckichaa

/-! SpecTr -/
namespace Go.Proofs.Yteflpaebckichaa
open Go.RowKit

theorem isLf_eq (t : Tr) : (t.str.toList == [46]) = t.isLf := by
  rw [Lib.toList_data, Tr.str_list]
  cases t <;> simp [Tr.text, Tr.isLf]

theorem str_lf : Tr.lf.str = ⟨#[46]⟩ := rfl
theorem str_nd (l r : Tr) : (Tr.nd l r).str = ⟨#[40]⟩ ++ l.str ++ r.str ++ ⟨#[41]⟩ := by
  apply ba_ext
  simp [Tr.str, Tr.text]

theorem trLeaf_any (t : Tr) (w : World) :
    Calls Try.prog 72 #[.string t.str] w fun e w' => e = .returned (.bool t.isLf) ∧ w = w' := by
  go_enter Try.func72, Try.ntmps72
  go_wp2_with fail
  go_ret
  exact ⟨ret_bool (isLf_eq t), rfl⟩

theorem trOf_any (l r : Tr) (w : World) (h : l.carets + r.carets ≤ 3000000) :
    Calls Try.prog 74 #[.string l.str, .string r.str] w fun e w' => e = .returned (.string (Tr.nd l r).str) ∧ w = w' := by
  have h1 := l.str_size
  have h2 := r.str_size
  go_enter Try.func74, Try.ntmps74
  go_wp2_with fail
  go_ret
  exact ⟨by rw [str_nd]; rfl, rfl⟩

theorem ret_str2 {a b c d : ByteArray} (h : a = c) (k : b = d) : Ending.returned (.tuple #[.string a, .string b]) = .returned (.tuple #[.string c, .string d]) := by rw [h, k]

theorem side_left (l r : Tr) (e : Nat) (he : e = 3 * l.carets + 2) : (Tr.nd l r).str.extract 1 e = l.str := by
  apply ba_ext
  rw [Lib.extract_data, Tr.str_list, Tr.str_list]
  have : e - 1 = l.text.length := by rw [l.text_len]; omega
  rw [this]
  simp [Tr.text]

theorem side_right (l r : Tr) (e f : Nat) (he : e = 3 * l.carets + 2) (hf : f = 3 * l.carets + 3 * r.carets + 3) : (Tr.nd l r).str.extract e f = r.str := by
  apply ba_ext
  rw [Lib.extract_data, Tr.str_list, Tr.str_list]
  have h1 : e = l.text.length + 1 := by rw [l.text_len]; omega
  have h2 : f - e = r.text.length := by rw [r.text_len]; omega
  rw [h2, h1]
  show ((40 :: (l.text ++ (r.text ++ [41]))).drop (l.text.length + 1)).take _ = _
  rw [List.drop_succ_cons, List.drop_left, List.take_left]

theorem trSides_any (l r : Tr) (w : World) (h : l.carets + r.carets ≤ 60) :
    Calls Try.prog 73 #[.string (Tr.nd l r).str] w fun e w' => e = .returned (.tuple #[.string l.str, .string r.str]) ∧ Below w.heap.size w w' := by
  have h1 := (Tr.nd l r).str_size
  simp only [Tr.carets] at h1
  have he := endI_complete l 61 (Tr.nd l r).str 1 (r.text ++ [41]) (by omega) (by rw [Tr.str_list]; rfl)
  have hl := l.text_len
  have he' : endI 61 (Tr.nd l r).str 1 = (3 * l.carets + 2 : Nat) := by
    have : ((1 : Nat) : Int) = 1 := rfl
    rw [this] at he; rw [he]; omega
  have HE := Lib.hid he'
  clear he he' hl
  go_enter Try.func73, Try.ntmps73
  go_wp2_with fail
  refine (end_any 61 (Tr.nd l r).str _ _ _ (by omega) (by omega) (by omega) (by omega)).mono ?_; rintro e w' ⟨rfl, rfl⟩
  rw [HE.out]
  go_wp2_with fail
  go_region
  all_goals (try go_wp2_with fail)
  all_goals go_ret2
  exact ⟨ret_str2 (side_left l r _ (by omega)) (side_right l r _ _ (by omega) (by omega)), (Below.refl _ _).drew⟩
end Go.Proofs.Yteflpaebckichaa

/-! SpecMir -/
namespace Go.Proofs.Yteflpaebckichaa
open Go.RowKit

set_option maxHeartbeats 400000 in
theorem trJoin_any (a : Tr) : ∀ (b : Tr) (w : World), a.carets ≤ 60 → b.carets ≤ 60 →
    Calls Try.prog 59 #[.string a.str, .string b.str] w (Gives (.string (a.join b).str) w) := by
  induction a with
  | lf =>
    intro b w ha hb
    go_enter Try.func59, Try.ntmps59
    go_wp2_with fail
    refine (trLeaf_any .lf _).mono ?_; rintro e w1 ⟨rfl, rfl⟩
    simp only [Tr.isLf]
    go_wp2_with fail
    go_ret
    exact ⟨rfl, Below.refl _ _⟩
  | nd l r ihl ihr =>
    intro b w ha hb
    have h' : l.carets + r.carets + 1 ≤ 60 := ha
    cases b with
    | lf =>
      go_enter Try.func59, Try.ntmps59
      go_wp2_with fail
      refine (trLeaf_any (.nd l r) _).mono ?_; rintro e w1 ⟨rfl, rfl⟩
      simp only [Tr.isLf]
      go_wp2_with fail
      refine (trLeaf_any .lf _).mono ?_; rintro e w1 ⟨rfl, rfl⟩
      simp only [Tr.isLf]
      go_wp2_with fail
      go_ret
      exact ⟨rfl, Below.refl _ _⟩
    | nd p q =>
      have h2 : p.carets + q.carets + 1 ≤ 60 := hb
      have ml := join_carets l p
      have mr := join_carets r q
      go_enter Try.func59, Try.ntmps59
      go_wp2_with fail
      refine (trLeaf_any (.nd l r) _).mono ?_; rintro e w1 ⟨rfl, rfl⟩
      simp only [Tr.isLf]
      go_wp2_with fail
      refine (trLeaf_any (.nd p q) _).mono ?_; rintro e w1 ⟨rfl, rfl⟩
      simp only [Tr.isLf]
      go_wp2_with fail
      refine (trSides_any l r _ (by omega)).mono ?_; rintro e w1 ⟨rfl, hb1⟩
      go_wp2_with fail
      refine (trSides_any p q _ (by omega)).mono ?_; rintro e w2 ⟨rfl, hb2⟩
      go_wp2_with fail
      refine (ihl p _ (by omega) (by omega)).mono ?_; rintro e w3 ⟨rfl, hb3⟩
      go_wp2_with fail
      refine (ihr q _ (by omega) (by omega)).mono ?_; rintro e w4 ⟨rfl, hb4⟩
      go_wp2_with fail
      refine (trOf_any (l.join p) (r.join q) _ (by omega)).mono ?_; rintro e w5 ⟨rfl, rfl⟩
      go_wp2_with fail
      go_ret
      exact ⟨rfl, nx (nx (nx hb1 hb2) hb3) hb4⟩

end Go.Proofs.Yteflpaebckichaa

/-! Ans -/
namespace Go.Proofs.Yteflpaebckichaa
open Go.RowKit

def trS : Option Tr → ByteArray
  | some t => t.str
  | none => ⟨#[]⟩
def trB : Option Tr → Bool
  | some _ => true
  | none => false
/-- An answer of a text and a bool. -/
def ansV (o : Option Tr) : Value := .tuple #[.string (trS o), .bool (trB o)]
/-- A tree, if it has no more carets than allowed. -/
def lim (t : Tr) : Option Tr := if t.carets ≤ 8 then some t else none

theorem trIs_yes (t : Tr) (w : World) (h : t.carets ≤ 8) : Calls Try.prog 33 #[.string t.str] w fun e w' => e = .returned (.bool true) ∧ w = w' := by
  have := trIs_any t.str w (by have := t.str_size; omega)
  rwa [isTreeB_str t h] at this
theorem trIs_no (s : ByteArray) (w : World) (hs : s.size ≤ 9223372036854775806) (h : treeOf s = none) : Calls Try.prog 33 #[.string s] w fun e w' => e = .returned (.bool false) ∧ w = w' := by
  have := trIs_any s w hs
  rwa [isTreeB_eq, h] at this
theorem carets_str (t : Tr) (w : World) (h : t.carets ≤ 1000) : Calls Try.prog 34 #[.string t.str] w fun e w' => e = .returned (.int .i64 t.carets) ∧ w = w' := by
  have := carets_any t.str w (by have := t.str_size; omega)
  rwa [cnt_str] at this

theorem limit_yes (t : Tr) (w : World) (h : t.carets ≤ 8) : Calls Try.prog 117 #[.string t.str] w fun e w' => e = .returned (.tuple #[.string t.str, .bool true]) ∧ w = w' := by
  have hz := t.str_size
  have hz' : t.str.size ≤ 25 := by omega
  clear hz
  go_enter Try.func117, Try.ntmps117
  go_wp2_with fail
  go_ret2
  exact ⟨rfl, rfl⟩
theorem limit_no (t : Tr) (w : World) (h : 8 < t.carets) : Calls Try.prog 117 #[.string t.str] w fun e w' => e = .returned (.tuple #[.string ⟨#[]⟩, .bool false]) ∧ w = w' := by
  have hz := t.str_size
  have hz' : 25 < t.str.size := by omega
  clear hz
  go_enter Try.func117, Try.ntmps117
  go_wp2_with fail
  go_ret2
  exact ⟨rfl, rfl⟩
theorem limit_any (t : Tr) (w : World) : Calls Try.prog 117 #[.string t.str] w fun e w' => e = .returned (ansV (lim t)) ∧ w = w' := by
  by_cases h : t.carets ≤ 8
  · have := limit_yes t w h
    rw [show ansV (lim t) = .tuple #[.string t.str, .bool true] by simp [lim, h, ansV, trS, trB]]
    exact this
  · have := limit_no t w (by omega)
    rw [show ansV (lim t) = .tuple #[.string ⟨#[]⟩, .bool false] by simp [lim, h, ansV, trS, trB]]
    exact this

def TreesOk (t u : Tr) (w : World) (e : Ending) (w' : World) : Prop :=
  ∃ b c : Nat, NodeAt w' t b ∧ NodeAt w' u c ∧ Below w.heap.size w w' ∧ e = .returned (.tuple #[.pointer (some ⟨b, 0, none⟩), .pointer (some ⟨c, 0, none⟩), .bool true])
def TreesNo (w : World) (e : Ending) (w' : World) : Prop :=
  Below w.heap.size w w' ∧ e = .returned (.tuple #[.pointer none, .pointer none, .bool false])

end Go.Proofs.Yteflpaebckichaa

/-! Count -/
namespace Go.Proofs.Yteflpaebckichaa
open Go.RowKit

set_option maxHeartbeats 1000000 in
set_option maxRecDepth 100000 in
theorem count_any (s : ByteArray) (w : World) :
    Calls Try.prog 70 #[.string s, .string ⟨#[40]⟩] w fun e w' => e = .returned (.int .i64 (Lib.countByte s.data.toList 40 : Nat)) ∧ w = w' := by
  go_enter Try.func70, Try.ntmps70
  go_wp2
  rw [run_callFunc_extern Try.func85 (by kernel_rfl) (by kernel_rfl) (by kernel_rfl) (e := Extern.BytealgCount.count) (by kernel_rfl), Lib.run_countString]
  simp only [Result.andThen]
  rw [Oper.upon_value]
  go_wp2
  go_ret
  exact ⟨rfl, rfl⟩

theorem countCarets_any (t : Tr) (w : World) (_h : t.carets ≤ 1000) :
    Calls Try.prog 51 #[.string t.str] w (Gives (.int .i64 t.carets) w) := by
  have e : Hid (Lib.countByte t.str.data.toList 40 = t.carets) := by rw [show Hid _ = _ from rfl, Tr.str_list, ← text_count]; rfl
  go_enter Try.func51, Try.ntmps51
  go_wp2_with fail
  refine (count_any t.str _).mono ?_; rintro _ w1 ⟨rfl, rfl⟩
  rw [e.out]
  go_wp2_with fail
  go_ret
  exact ⟨rfl, Below.refl _ _⟩
end Go.Proofs.Yteflpaebckichaa

/-! Pair -/
namespace Go.Proofs.Yteflpaebckichaa
open Go.RowKit

/-- A pair of texts as a value. -/
abbrev pv (a b : ByteArray) : Value := .agg #[.string a, .string b]

theorem toPair_any (a b : ByteArray) (w : World) :
    Calls Try.prog 9 #[.agg #[.string a, .string b]] w (Gives (.agg #[.string a, .string b]) w) := by
  go_enter Try.func9, Try.ntmps9
  go_wp2
  refine bodyPost_ret (v := .agg #[.string a, .string b]) (by simp [results, Try.results9, go_sem]) rfl ⟨rfl, ?_⟩
  exact nxAlloc (nxAlloc (nxAlloc (Below.refl _ _) _) _) _

theorem szPair_any (a b : ByteArray) (w : World) (ha : a.size ≤ 9223372036854775807) (hb : b.size ≤ 9223372036854775807) (n : Int) (h0 : 0 ≤ n) (h1 : n ≤ 1048576) :
    Calls Try.prog 7 #[.agg #[.string a, .string b], .int .i64 n] w (Gives (.int .i64 (if (a.size : Int) + b.size ≤ n then n - a.size - b.size else -1)) w) := by
  by_cases h2 : n - a.size < 0
  · rw [if_neg (by omega)]
    go_enter Try.func7, Try.ntmps7
    go_wp2
    go_ret
    exact ⟨rfl, (Below.refl _ _).alloc (Nat.le_refl _) _⟩
  · by_cases h3 : n - a.size - b.size < 0
    · rw [if_neg (by omega)]
      go_enter Try.func7, Try.ntmps7
      go_wp2
      go_ret
      exact ⟨rfl, (Below.refl _ _).alloc (Nat.le_refl _) _⟩
    · rw [if_pos (by omega)]
      go_enter Try.func7, Try.ntmps7
      go_wp2
      go_ret
      exact ⟨rfl, (Below.refl _ _).alloc (Nat.le_refl _) _⟩

theorem pairOf_isSome (a b : ByteArray) (t u : Tr) (ha : treeOf a = some t) (hb : treeOf b = some u) : (pairOf a b).isSome = ((t.carets : Int) == (u.carets : Int)) := by
  unfold pairOf
  rw [ha, hb, Bool.eq_iff_iff, beq_iff_eq]
  by_cases h : t.carets = u.carets
  · simp [h]
  · simp only [h, if_false]; simp; omega

set_option maxRecDepth 100000 in
set_option maxHeartbeats 1000000 in
theorem prGood_any (a b : ByteArray) (w : World) (ha : a.size ≤ 9223372036854775806) (hb : b.size ≤ 9223372036854775806) :
    Calls Try.prog 20 #[.agg #[.string a, .string b]] w (Gives (.bool (pairOf a b).isSome) w) := by
  cases h : treeOf a with
  | none =>
    have e : (pairOf a b).isSome = false := by unfold pairOf; rw [h]; rfl
    rw [e]
    have T := fun w => trIs_no a w ha h
    clear h e
    go_enter Try.func20, Try.ntmps20
    go_wp2_with fail
    go_quiet ((go_at_call 33; with_reducible exact quiet_eq (T _)))
    go_wp2_with fail
    go_ret
    exact ⟨rfl, drewB (nxAlloc (Below.refl _ _) _) _⟩
  | some t =>
    cases k : treeOf b with
    | none =>
      have e : (pairOf a b).isSome = false := by unfold pairOf; rw [h, k]; rfl
      rw [e]
      obtain ⟨rfl, hc⟩ := treeOf_some h
      have T := fun w => trIs_yes t w hc
      have U := fun w => trIs_no b w hb k
      clear h k e
      go_enter Try.func20, Try.ntmps20
      go_wp2_with fail
      go_quiet ((go_at_call 33; first | (with_reducible exact quiet_eq (T _)) | (with_reducible exact quiet_eq (U _))))
      go_wp2_with fail
      go_ret
      exact ⟨rfl, drewB (nxAlloc (Below.refl _ _) _) _⟩
    | some u =>
      rw [pairOf_isSome a b t u h k]
      obtain ⟨rfl, hc⟩ := treeOf_some h
      obtain ⟨rfl, hd⟩ := treeOf_some k
      have T := fun w => trIs_yes t w hc
      have U := fun w => trIs_yes u w hd
      have C := fun w => carets_str t w (by omega)
      have D := fun w => carets_str u w (by omega)
      clear h k
      go_enter Try.func20, Try.ntmps20
      go_wp2_with fail
      go_quiet ((first | (go_at_call 33; first | (with_reducible exact quiet_eq (T _)) | (with_reducible exact quiet_eq (U _))) | (go_at_call 34; first | (with_reducible exact quiet_eq (C _)) | (with_reducible exact quiet_eq (D _)))))
      go_wp2_with fail
      go_ret
      exact ⟨rfl, drewB (nxAlloc (Below.refl _ _) _) _⟩
end Go.Proofs.Yteflpaebckichaa

/-! RegT -/
namespace Go.Proofs.Yteflpaebckichaa
open Go.RowKit

section
variable {P : Program} {ops : Array Oper} {md : Region.Mode} {C : World → Prop}

/-- Whatever order is drawn for the first n operations. -/
def headQ (P : Program) (md : Region.Mode) (ops : Array Oper) (C : World → Prop) (n : Nat) (L : Array Bool → Act → Prop) : Nat → Array Bool → Act → Prop
  | 0, listed, a => L listed a
  | f + 1, listed, a => Region.ready md ops listed ≠ [] ∧ ∀ i ∈ Region.ready md ops listed, i < n ∧ qOp P ops C i (headQ P md ops C n L f (listed.setIfInBounds i true)) a

theorem any_of_headQ {n g : Nat} {L : Array Bool → Act → Prop} {Q' : Exit → Act → World → Prop} (hL : ∀ listed a w, C w → L listed a → wpAny P md ops Q' g listed a w) :
    ∀ (f : Nat) (listed : Array Bool) (a : Act) (w : World), C w → headQ P md ops C n L f listed a → wpAny P md ops Q' (f + g) listed a w
  | 0, listed, a, w, hw, h => by rw [Nat.zero_add]; exact hL _ _ _ hw h
  | f + 1, listed, a, w, hw, h => by
    rw [Nat.add_right_comm]
    exact ⟨fun h0 => absurd h0 h.1, fun i hi => wpOp_of_qOp hw (fun a' w' hw' h' => any_of_headQ hL f _ a' w' hw' h') (h.2 i hi).2⟩

theorem headQ_first {n i : Nat} {oi : Oper} {v : Value} {L : Array Bool → Act → Prop} (hi : ops[i]? = some oi) (hsel : ∀ (j : Nat) (o : Oper) cs b, ops[j]? = some o → o.op ≠ .select cs b)
    (hs : Region.sinkB md ops n = true) (hc : Region.chainB md ops n = true) (hn : n < ops.size) (hin : i < n)
    (hdone : ∀ listed a, L listed a → ∀ j ∈ Region.ready md ops listed, n ≤ j) :
    ∀ (f : Nat) (listed : Array Bool) (a : Act), HeadInv md ops n listed →
      (∀ j oj, ops[j]? = some oj → j ≠ i → listed.getD j true = false → (∀ e ∈ oj.after, Region.binds md e = true → e.on ≠ i) → oi.apart ops oj = true) →
      i ∈ Region.ready md ops listed → YieldsIn P ops C oi v a →
      headQ P md ops C n L f (listed.setIfInBounds i true) (a.put oi.dst v) → headQ P md ops C n L (f + 1) listed a := by
  intro f
  induction f with
  | zero =>
    intro listed a inv _ hr hy H
    have hun := (mem_ready.1 hr).1
    refine ⟨(List.ne_nil_of_mem hr), fun j hj => ?_⟩
    have hjn : j < n := Nat.lt_of_not_le fun h => tail_waits hs hc hn inv _ i rfl hin hun j h hj
    refine ⟨hjn, ?_⟩
    by_cases hji : j = i
    · subst hji; exact hy.qOp hi H
    · have := hdone _ _ H j (ready_mono hj hji)
      omega
  | succ f ih =>
    intro listed a inv hfree hr hy H
    have hun := (mem_ready.1 hr).1
    refine ⟨(List.ne_nil_of_mem hr), fun j hj => ?_⟩
    have hjn : j < n := Nat.lt_of_not_le fun h => tail_waits hs hc hn inv _ i rfl hin hun j h hj
    refine ⟨hjn, ?_⟩
    by_cases hji : j = i
    · subst hji; exact hy.qOp hi H
    · have k1 := (H.2 j (ready_mono hj hji)).2
      obtain ⟨hjun, oj, hoj, hall⟩ := mem_ready.1 hj
      have hnot : ∀ e ∈ oj.after, Region.binds md e = true → e.on ≠ i := by
        intro e he hb heq
        have k2 := hall e he hb
        rw [heq, getD_both hun] at k2
        cases k2
      have k3 := qOp_put hoj (hfree j oj hoj hji hjun hnot) (fun cs b => hsel i oi cs b hi) (fun cs b => hsel j oj cs b hoj) hy k1
      refine qOp_mono (fun a' k4 => ih (listed.setIfInBounds j true) a' (inv.set hj hjn) ?_ (ready_mono hr (Ne.symm hji)) k4.1 ?_) k3
      · intro k ok hk hki hunk hno
        refine hfree k ok hk hki ?_ hno
        by_cases hjk : j = k
        · subst hjk; exact hjun
        · rw [getD_set_ne true hjk] at hunk; exact hunk
      · rw [Array.setIfInBounds_comm _ _ hji]
        exact k4.2

theorem headQ_lex {n g : Nat} {Lq : Act → Prop} (hsel : Region.noSelect ops = true) (hs : Region.sinkB md ops n = true) (hc : Region.chainB md ops n = true) (hn : n < ops.size) :
    ∀ (l : List Oper) (k : Nat) (listed : Array Bool) (a : Act), (∀ j, j < l.length → l[j]? = ops[k + j]?) → k + l.length = n → HeadInv md ops n listed →
    Region.lexHead md ops g l.length k listed = true → wpQuiet P ops C Lq l a →
    headQ P md ops C n (fun listed' a' => Region.seqB md ops g n listed' = true ∧ Lq a') l.length listed a
  | [], k, listed, a, _, hk, _, hB, h => by
    obtain rfl : k = n := by simpa using hk
    exact ⟨by simpa [Region.lexHead] using hB, h⟩
  | o :: l, k, listed, a, hl, hk, inv, hB, h => by
    have h0 : ops[k]? = some o := by simpa using (hl 0 (by simp)).symm
    simp only [List.length_cons, Region.lexHead, Bool.and_eq_true] at hB
    obtain ⟨⟨hr, hf⟩, hB'⟩ := hB
    have hkn : k < n := by simp only [List.length_cons] at hk; omega
    have hr' : k ∈ Region.ready md ops listed := by simpa using hr
    have hst : qOp P ops C k (wpQuiet P ops C Lq l) a := by unfold qOp; simp only [h0]; exact h
    obtain ⟨v, hy, hK⟩ := yieldsIn_of_qOp h0 hst
    refine headQ_first h0 (Region.noSelect_spec hsel) hs hc hn hkn (fun listed' a' hL => seqB_ready hL.1) l.length listed a inv (Region.free_spec h0 hf) hr' hy ?_
    refine headQ_lex hsel hs hc hn l (k + 1) _ _ (fun j hj => ?_) (by simp only [List.length_cons] at hk; omega) (inv.set hr' hkn) hB' hK
    have := hl (j + 1) (by simp; omega)
    simpa [Nat.add_assoc, Nat.add_comm 1 j] using this

/-- The first n operations are quiet in the class; the rest is walked in each of its worlds. -/
theorem wp_region_headQ {id : Nat} {Q : Exit → Act → World → Prop} {a : Act} {w : World} {l : List Oper} (n : Nat) (hm : P.follows .mixedOrders = true) (hB : Region.lexTailB .any l.toArray n = true) (hC : C w.drew)
    (h : wpQuiet P l.toArray C (fun a' => ∀ w', C w' → wpList P l.toArray Q (l.drop n) a' w') (l.take n) a) : (Code.region id l.toArray true).wp P Q a w := by
  simp only [Region.lexTailB, Bool.and_eq_true, decide_eq_true_eq] at hB
  obtain ⟨⟨⟨⟨hsel, hn⟩, hs⟩, hc⟩, hlex⟩ := hB
  have hn' : n < l.length := by simpa using hn
  have htl : (l.take n).length = n := by simp; omega
  have hdl : (l.drop n).length = l.toArray.size - n := by simp
  have inv0 : HeadInv .any l.toArray n (Array.replicate l.toArray.size false) := by
    refine ⟨by simp, fun j oj _ hl => ?_, fun t _ ht => getD_in (by simpa using ht) (getD_replicate_false _ _)⟩
    rw [getD_replicate_false] at hl; cases hl
  have H := headQ_lex (md := .any) (C := C) (g := l.toArray.size - n) hsel hs hc hn (l.take n) 0 _ a (fun j hj => by
    have hj' : j < n := by rw [htl] at hj; exact hj
    simp [hj']) (by simpa using htl) inv0 (by rw [htl]; exact hlex) h
  refine wp_region_any hm ?_
  have := any_of_headQ (Q' := Q) (g := l.toArray.size - n) (fun listed a' w' hw' hL => by
    have := wpAny_of_seq (md := .any) (Q' := Q) (l.drop n) n listed a' w' (fun j => by simp [List.getElem?_drop]) (by rw [hdl]; exact hL.1) (hL.2 w' hw')
    rwa [hdl] at this) _ _ _ _ hC H
  rw [htl, show n + (l.toArray.size - n) = l.toArray.size by omega] at this
  exact this
end

/-- The worlds that leave what was there. -/
def Cls (w w' : World) : Prop := Below w.heap.size w w'
theorem Cls.cell {w w' : World} (h : Cls w w') {g i : Nat} {v : Value} (hg : g < w.heap.size) (hc : w.cell? ⟨g, i, none⟩ = some v) : w'.cell? ⟨g, i, none⟩ = some v := (Below.cell h (p := ⟨g, i, none⟩) hg).trans hc
theorem Cls.call {P : Program} {f : FuncId} {args : Array Value} {w w' : World} {v : Value} (h : Cls w w') (k : Calls P f args w' (Gives v w')) : Calls P f args w' fun e w'' => e = .returned v ∧ Cls w w'' :=
  k.mono fun _ _ ⟨he, hb⟩ => ⟨he, nx h hb⟩

theorem wp_region_cls {P : Program} {id : Nat} {Q : Exit → Act → World → Prop} {a : Act} {w : World} {l : List Oper} (hm : P.follows .mixedOrders = true) (hB : Region.lexB .any l.toArray = true)
    (h : wpQuiet P l.toArray (Cls w) (fun a' => ∀ w', Cls w w' → Q .normal a' w') l a) : (Code.region id l.toArray true).wp P Q a w :=
  wp_region_quiet (C := Cls w) hm hB ((Below.refl _ _).drew) (by simpa using h)

theorem wp_region_clsT {P : Program} {id : Nat} {Q : Exit → Act → World → Prop} {a : Act} {w : World} {l : List Oper} (n : Nat) (hm : P.follows .mixedOrders = true) (hB : Region.lexTailB .any l.toArray n = true)
    (h : wpQuiet P l.toArray (Cls w) (fun a' => ∀ w', Cls w w' → wpList P l.toArray Q (l.drop n) a' w') (l.take n) a) : (Code.region id l.toArray true).wp P Q a w :=
  wp_region_headQ n hm hB ((Below.refl _ _).drew) h
end Go.Proofs.Yteflpaebckichaa

/-! PairK -/
namespace Go.Proofs.Yteflpaebckichaa
open Go.RowKit

theorem two_cells {w : World} {g : Nat} {u v : Value} {t : TypeId} (h : w.heap[g]? = some (.cells #[u, v] t (0, 0))) : w.cell? ⟨g, 0, none⟩ = some u ∧ w.cell? ⟨g, 1, none⟩ = some v := by
  simp [World.cell?, h]
theorem two_facts {w : World} {g : Nat} {u v : Value} {t : TypeId} (h : w.heap[g]? = some (.cells #[u, v] t (0, 0))) : w.cell? ⟨g, 0, none⟩ = some u ∧ w.cell? ⟨g, 1, none⟩ = some v ∧ g < w.heap.size :=
  ⟨(two_cells h).1, (two_cells h).2, lt_of_block h⟩
theorem keep_two {w w' : World} {g : Nat} {u v : Value} (hb : Below w.heap.size w w') (hg : g < w.heap.size) (h : w.cell? ⟨g, 0, none⟩ = some u ∧ w.cell? ⟨g, 1, none⟩ = some v) : w'.cell? ⟨g, 0, none⟩ = some u ∧ w'.cell? ⟨g, 1, none⟩ = some v :=
  ⟨(hb.cell (p := ⟨g, 0, none⟩) hg).trans h.1, (hb.cell (p := ⟨g, 1, none⟩) hg).trans h.2⟩


theorem two_frozen {w : World} {g : Nat} {u v : Value} {t : TypeId} (h : w.heap[g]? = some (.cells #[u, v] t (0, 0))) : w.frozen? ⟨g, 0, none⟩ = false ∧ w.frozen? ⟨g, 1, none⟩ = false := by
  simp [World.frozen?, h]
theorem set_first {w : World} {g : Nat} {u v u' : Value} {t : TypeId} (h : w.heap[g]? = some (.cells #[u, v] t (0, 0))) : (w.setCell ⟨g, 0, none⟩ u').heap[g]? = some (.cells #[u', v] t (0, 0)) := Joins.block_setCell h u'
theorem set_second {w : World} {g : Nat} {u v v' : Value} {t : TypeId} (h : w.heap[g]? = some (.cells #[u, v] t (0, 0))) : (w.setCell ⟨g, 1, none⟩ v').heap[g]? = some (.cells #[u, v'] t (0, 0)) := Joins.block_setCell h v'
theorem set_two {w : World} {g : Nat} {u v : Value} (u' v' : Value) {t : TypeId} (h : w.heap[g]? = some (.cells #[u, v] t (0, 0))) : ((w.setCell ⟨g, 0, none⟩ u').setCell ⟨g, 1, none⟩ v').heap[g]? = some (.cells #[u', v'] t (0, 0)) := set_second (set_first h)
theorem heap_keep {w w' : World} {g : Nat} {o : Obj} (hb : Below w.heap.size w w') (h : w.heap[g]? = some o) : w'.heap[g]? = some o := (hb.block g (lt_of_block h)).trans h


def pS1 (o : Option Pr) : ByteArray := match o with
  | some p => p.1.str
  | none => ⟨#[]⟩
def pS2 (o : Option Pr) : ByteArray := match o with
  | some p => p.2.str
  | none => ⟨#[]⟩
/-- An answer of a pair and a bool. -/
def ansPr (o : Option Pr) : Value := .tuple #[.agg #[.string (pS1 o), .string (pS2 o)], .bool o.isSome]
end Go.Proofs.Yteflpaebckichaa

/-! IsPair -/
namespace Go.Proofs.Yteflpaebckichaa
open Go.RowKit

theorem isTree_yes' (t : Tr) (w : World) (h : t.carets ≤ 8) : Calls Try.prog 50 #[.string t.str] w (Gives (.bool true) w) := (implIsTree_yes t w h).mono fun _ _ ⟨h1, h2⟩ => ⟨h2, h1⟩
theorem isTree_no' (s : ByteArray) (w : World) (hs : s.size ≤ 9223372036854775806) (h : treeOf s = none) : Calls Try.prog 50 #[.string s] w (Gives (.bool false) w) := (implIsTree_no s w hs h).mono fun _ _ ⟨h1, h2⟩ => ⟨h2, h1⟩

set_option maxRecDepth 100000 in
set_option maxHeartbeats 2000000 in
theorem isPair_any (a b : ByteArray) (w : World) (ha : a.size ≤ 9223372036854775806) (hb : b.size ≤ 9223372036854775806) :
    Calls Try.prog 30 #[.agg #[.string a, .string b]] w (Gives (.bool (pairOf a b).isSome) w) := by
  cases h : treeOf a with
  | none =>
    have e : (pairOf a b).isSome = false := by unfold pairOf; rw [h]; rfl
    rw [e]
    have T := fun w => isTree_no' a w ha h
    clear h e
    go_enter Try.func30, Try.ntmps30
    go_wp2_with fail
    have hb0 : Below w.heap.size w (w.alloc (.cells #[.string a, .string b] 27 (0, 0))) := nxAlloc (Below.refl _ _) _
    have hc := two_cells (heap_alloc_at w (.cells #[.string a, .string b] 27 (0, 0)))
    have hs : w.heap.size < (w.alloc (.cells #[.string a, .string b] 27 (0, 0))).heap.size := by simp
    generalize w.alloc (.cells #[.string a, .string b] 27 (0, 0)) = w0 at *
    refine wp_region_cls (by kernel_rfl) (by kernel_rfl) ?_
    repeat (
      refine wpQuiet_step (fun K hK => ?_)
      go_simp
      first
        | (refine hK _ ?_; clear hK K)
        | (refine ⟨_, fun _ _ => rfl, hK _ ?_⟩; clear hK K)
        | (apply Exists.intro
           refine ⟨fun w' hw' => ?_, hK _ ?_⟩
           · first
               | (rw [hw'.cell hs hc.1]; exact ⟨rfl, rfl⟩)
               | (rw [hw'.cell hs hc.2]; exact ⟨rfl, rfl⟩)
               | (go_at_call 50; exact hw'.call (T _))
           clear hK K))
    refine wpQuiet_nil ?_
    intro w' hw'
    go_wp2_with fail
    go_ret
    exact ⟨rfl, nx hb0 hw'⟩
  | some t =>
    cases k : treeOf b with
    | none =>
      have e : (pairOf a b).isSome = false := by unfold pairOf; rw [h, k]; rfl
      rw [e]
      obtain ⟨rfl, hc⟩ := treeOf_some h
      have T := fun w => isTree_yes' t w hc
      have U := fun w => isTree_no' b w hb k
      clear h k e hc
      go_enter Try.func30, Try.ntmps30
      go_wp2_with fail
      have hb0 : Below w.heap.size w (w.alloc (.cells #[.string t.str, .string b] 27 (0, 0))) := nxAlloc (Below.refl _ _) _
      have hc := two_cells (heap_alloc_at w (.cells #[.string t.str, .string b] 27 (0, 0)))
      have hs : w.heap.size < (w.alloc (.cells #[.string t.str, .string b] 27 (0, 0))).heap.size := by simp
      generalize w.alloc (.cells #[.string t.str, .string b] 27 (0, 0)) = w0 at *
      refine wp_region_cls (by kernel_rfl) (by kernel_rfl) ?_
      repeat (
        refine wpQuiet_step (fun K hK => ?_)
        go_simp
        first
          | (refine hK _ ?_; clear hK K)
          | (refine ⟨_, fun _ _ => rfl, hK _ ?_⟩; clear hK K)
          | (apply Exists.intro
             refine ⟨fun w' hw' => ?_, hK _ ?_⟩
             · first
                 | (rw [hw'.cell hs hc.1]; exact ⟨rfl, rfl⟩)
                 | (rw [hw'.cell hs hc.2]; exact ⟨rfl, rfl⟩)
                 | (go_at_call 50; first | (with_reducible exact hw'.call (T _)) | (with_reducible exact hw'.call (U _)))
             clear hK K))
      refine wpQuiet_nil ?_
      intro w' hw'
      go_wp2_with fail
      go_ret
      exact ⟨rfl, nx hb0 hw'⟩
    | some u =>
      rw [pairOf_isSome a b t u h k]
      obtain ⟨rfl, hc⟩ := treeOf_some h
      obtain ⟨rfl, hd⟩ := treeOf_some k
      have T := fun w => isTree_yes' t w hc
      have U := fun w => isTree_yes' u w hd
      have C := fun w => countCarets_any t w (by omega)
      have D := fun w => countCarets_any u w (by omega)
      clear h k hc hd
      go_enter Try.func30, Try.ntmps30
      go_wp2_with fail
      have hb0 : Below w.heap.size w (w.alloc (.cells #[.string t.str, .string u.str] 27 (0, 0))) := nxAlloc (Below.refl _ _) _
      have hc := two_cells (heap_alloc_at w (.cells #[.string t.str, .string u.str] 27 (0, 0)))
      have hs : w.heap.size < (w.alloc (.cells #[.string t.str, .string u.str] 27 (0, 0))).heap.size := by simp
      generalize w.alloc (.cells #[.string t.str, .string u.str] 27 (0, 0)) = w0 at *
      refine wp_region_cls (by kernel_rfl) (by kernel_rfl) ?_
      repeat (
        refine wpQuiet_step (fun K hK => ?_)
        go_simp
        first
          | (refine hK _ ?_; clear hK K)
          | (refine ⟨_, fun _ _ => rfl, hK _ ?_⟩; clear hK K)
          | (apply Exists.intro
             refine ⟨fun w' hw' => ?_, hK _ ?_⟩
             · first
                 | (rw [hw'.cell hs hc.1]; exact ⟨rfl, rfl⟩)
                 | (rw [hw'.cell hs hc.2]; exact ⟨rfl, rfl⟩)
                 | (go_at_call 50; first | (with_reducible exact hw'.call (T _)) | (with_reducible exact hw'.call (U _)))
                 | (go_at_call 51; first | (with_reducible exact hw'.call (C _)) | (with_reducible exact hw'.call (D _)))
             clear hK K))
      refine wpQuiet_nil ?_
      intro w' hw'
      go_wp2_with fail
      go_ret
      exact ⟨rfl, nx hb0 hw'⟩
end Go.Proofs.Yteflpaebckichaa

/-! In -/
namespace Go.Proofs.Yteflpaebckichaa
open Go.RowKit

/-- An answer of a text and a bool. -/
def ans2 (o : Option ByteArray) : Value := .tuple #[.string (o.getD ⟨#[]⟩), .bool o.isSome]

end Go.Proofs.Yteflpaebckichaa

/-! Text -/
namespace Go.Proofs.Yteflpaebckichaa
open Go.RowKit

theorem isLeaf_any (t : Tr) (b : Nat) (w : World) (h : NodeAt w t b) :
    Calls Try.prog 104 #[.pointer (some ⟨b, 0, none⟩)] w fun e w' => e = .returned (.bool t.isLf) ∧ w = w' := by
  cases t with
  | lf =>
    have h1 := two_left h
    have H := Lib.hid h
    clear h
    go_enter Try.func104, Try.ntmps104
    go_wp2_with fail
    go_ret
    exact ⟨rfl, rfl⟩
  | nd l r =>
    obtain ⟨bl, br, h, hl, hr⟩ := h
    have h1 := two_left h
    have H := Lib.hid h
    clear h
    go_enter Try.func104, Try.ntmps104
    go_wp2_with fail
    go_ret
    exact ⟨rfl, rfl⟩

theorem NodeAt.heap {w w' : World} (e : w'.heap = w.heap) : ∀ {t : Tr} {b : Nat}, NodeAt w t b → NodeAt w' t b := by
  intro t
  induction t with
  | lf => intro b h; unfold NodeAt at *; rw [e]; exact h
  | nd l r ihl ihr =>
    intro b h
    obtain ⟨bl, br, h, h1, h2⟩ := h
    exact ⟨bl, br, by rw [e]; exact h, ihl h1, ihr h2⟩
theorem NodeAt.drewN {w : World} (n : Nat) {t : Tr} {b : Nat} (h : NodeAt w t b) : NodeAt (w.drewN n) t b := NodeAt.heap (w := w) (w' := w.drewN n) rfl h

set_option maxHeartbeats 400000 in
theorem text_any (t : Tr) : ∀ (b : Nat) (w : World), NodeAt w t b → t.carets ≤ 1000 →
    Calls Try.prog 108 #[.pointer (some ⟨b, 0, none⟩)] w (Quietly (.string t.str) w) := by
  induction t with
  | lf =>
    intro b w h hc
    have H := Lib.hid h
    clear h
    go_enter Try.func108, Try.ntmps108
    go_wp2_with fail
    refine (isLeaf_any .lf b _ H.out).mono ?_; rintro e w1 ⟨rfl, rfl⟩
    simp only [Tr.isLf]
    go_wp2_with fail
    go_ret
    exact ⟨rfl, 0, rfl⟩
  | nd l r ihl ihr =>
    intro b w h hc
    have hc' : l.carets + r.carets + 1 ≤ 1000 := hc
    have sl := l.str_size
    have sr := r.str_size
    have H := Lib.hid h
    obtain ⟨bl, br, h, hl, hr⟩ := h
    have h1 := two_left h
    have h2 := two_right h
    clear h
    go_enter Try.func108, Try.ntmps108
    go_wp2_with fail
    refine (isLeaf_any (.nd l r) b _ H.out).mono ?_; rintro e w1 ⟨rfl, rfl⟩
    simp only [Tr.isLf]
    go_wp2_with fail
    go_quiet ((go_at_call 108; first | exact Calls.quiet_of (ihl _ _ (hl.drewN _) (by omega)) | exact Calls.quiet_of (ihr _ _ (hr.drewN _) (by omega))))
    go_wp2_with fail
    go_ret
    exact ⟨by rw [str_nd]; rfl, _, rfl⟩
end Go.Proofs.Yteflpaebckichaa

/-! Leaf -/
namespace Go.Proofs.Yteflpaebckichaa
open Go.RowKit

theorem posFrom_dot {s : ByteArray} {k : Nat} {off : Nat} {n : Int} (h : k < s.size) (hb : (((s[k]'h).toNat : Int) == 46) = true) :
    posFrom (s.data.toList.drop k) off n = if n = 0 then (off : Int) else posFrom (s.data.toList.drop (k + 1)) (off + 1) (n - 1) := by
  obtain ⟨c, r, hd, hc, hr⟩ := drop_of_byteAt h
  have h1 : byteAt s k = (s[k]'h).toNat := byteAt_eq s k h
  have : c = 46 := u8_eq (n := 46) (by omega) (by rw [← hc, h1]; simpa using hb)
  rw [hd, posFrom, if_pos this, hr]
theorem posFrom_other {s : ByteArray} {k : Nat} {off : Nat} {n : Int} (h : k < s.size) (hb : (((s[k]'h).toNat : Int) == 46) = false) :
    posFrom (s.data.toList.drop k) off n = posFrom (s.data.toList.drop (k + 1)) (off + 1) n := by
  obtain ⟨c, r, hd, hc, hr⟩ := drop_of_byteAt h
  have h1 : byteAt s k = (s[k]'h).toNat := byteAt_eq s k h
  have : ¬ c = 46 := fun e => by
    have : (((s[k]'h).toNat : Int)) = 46 := by rw [← h1, hc, e]; rfl
    simp [this] at hb
  rw [hd, posFrom, if_neg this, hr]
theorem posFrom_end {s : ByteArray} {off : Nat} {n : Int} : posFrom (s.data.toList.drop s.size) off n = -1 := by
  rw [List.drop_of_length_le (by rw [Lib.size_eq]; exact Nat.le_refl _)]; rfl

set_option maxRecDepth 100000 in
set_option maxHeartbeats 1000000 in
theorem leafPlace_any (s : ByteArray) (n : Int) (w : World) (hs : s.size ≤ 9223372036854775806) (hn : 0 ≤ n) (hn' : n ≤ 9223372036854775807) :
    Calls Try.prog 79 #[.string s, .int .i64 n] w (Quietly (.int .i64 (posFrom s.data.toList 0 n)) w) := by
  go_enter Try.func79, Try.ntmps79
  go_wp2_with fail
  go_loopw [1, 8] (fun v i wr => ∃ (k : Nat) (m : Int) (d : Nat), k ≤ s.size ∧ i = .int .i64 k ∧ v = .int .i64 m ∧ 0 ≤ m ∧ m ≤ 9223372036854775807 ∧ wr = w.drewN d ∧ Hid (posFrom s.data.toList 0 n = posFrom (s.data.toList.drop k) k m)) (fun _ i _ => s.size - (intOf i).toNat)
  case atStart => exact ⟨0, n, 0, Nat.zero_le _, rfl, rfl, hn, hn', rfl, rfl⟩
  case round =>
    obtain ⟨k, m, d, hk, rfl, rfl, hm, hm', rfl, he⟩ := hrel
    by_cases hlt : k < s.size
    · cases h46 : (((s[k]'hlt).toNat : Int) == 46) with
      | true =>
        have h46' : Hid ((((s[k]'hlt).toNat : Int) != 46) = false) := by show (_ != _) = false; rw [bne, h46]; rfl
        have hp := posFrom_dot (off := k) (n := m) hlt h46
        have HP := Lib.hid hp
        clear hp h46
        by_cases hm0 : m = 0
        · have g0 : (m == 0) = true := by simp [hm0]
          have HM := Lib.hid hm0
          clear hm0
          go_wp2_with fail
          have g := h46'.out
          have gz : ((⟨#[46]⟩ : ByteArray)[0]'(by decide)).toNat = 46 := rfl
          go_quiet (fail)
          go_wp2_with fail
          go_ret
          exact ⟨ret_int (by rw [he.out, HP.out, if_pos HM.out]), _, rfl⟩
        · have g0 : (m == 0) = false := by simp [hm0]
          have hm1 : 1 ≤ m := by omega
          have HM := Lib.hid hm0
          clear hm0
          go_wp2_with fail
          have g := h46'.out
          have gz : ((⟨#[46]⟩ : ByteArray)[0]'(by decide)).toNat = 46 := rfl
          go_quiet (fail)
          go_wp2_with fail
          clear g gz
          go_roundw
          case rel => exact ⟨k + 1, m - 1, _, by omega, by go_num, rfl, by omega, by omega, rfl, by show _ = _; rw [he.out, HP.out, if_neg HM.out]⟩
          case measure => simp [intOf]; omega
      | false =>
        have h46' : Hid ((((s[k]'hlt).toNat : Int) != 46) = true) := by show (_ != _) = true; rw [bne, h46]; rfl
        have hp := posFrom_other (off := k) (n := m) hlt h46
        have HP := Lib.hid hp
        clear hp h46
        go_wp2_with fail
        have g := h46'.out
        have gz : ((⟨#[46]⟩ : ByteArray)[0]'(by decide)).toNat = 46 := rfl
        go_quiet (fail)
        go_wp2_with fail
        clear g gz
        go_roundw
        case rel => exact ⟨k + 1, m, _, by omega, by go_num, rfl, by omega, by omega, rfl, by show _ = _; rw [he.out, HP.out]⟩
        case measure => simp [intOf]; omega
    · obtain rfl : k = s.size := by omega
      go_wp2_with fail
      go_ret
      exact ⟨ret_int (by rw [he.out, posFrom_end]), _, rfl⟩

set_option maxRecDepth 100000 in
set_option maxHeartbeats 1000000 in
theorem trGraft_any (s o : ByteArray) (n : Int) (w : World) (hs : s.size ≤ 1000) (ho : o.size ≤ 1000) (hn : 0 ≤ n) (hn' : n ≤ 9223372036854775807) (hp : 0 ≤ posFrom s.data.toList 0 n) :
    Calls Try.prog 75 #[.string s, .int .i64 n, .string o] w (Gives (.string (graftS s n o)) w) := by
  have HP0 := Lib.hid hp
  clear hp
  go_enter Try.func75, Try.ntmps75
  go_wp2_with fail
  go_loopw [7, 8] (fun v i wr => ∃ (k : Nat) (c : Int), k ≤ s.size ∧ i = .int .i64 k ∧ v = .int .i64 c ∧ -1 ≤ c ∧ c < n ∧ wr = w ∧ Hid (posFrom s.data.toList 0 n = posFrom (s.data.toList.drop k) k (n - (c + 1)))) (fun _ i _ => s.size - (intOf i).toNat)
  case atStart => exact ⟨0, -1, Nat.zero_le _, rfl, rfl, by omega, by omega, rfl, by show _ = _; simp⟩
  case round =>
    obtain ⟨k, c, hk, rfl, rfl, hc1, hc2, rfl, he⟩ := hrel
    by_cases hlt : k < s.size
    · cases h46 : (((s[k]'hlt).toNat : Int) == 46) with
      | true =>
        have hp := posFrom_dot (off := k) (n := n - (c + 1)) hlt h46
        have HP := Lib.hid hp
        have H46 := Lib.hid h46
        clear hp h46
        by_cases hm0 : c + 1 = n
        · have g0 : (c + 1 == n) = true := by simp [hm0]
          have hpos : Hid ((posFrom s.data.toList 0 n).toNat = k) := by
            show _ = _
            rw [he.out, HP.out, if_pos (by omega)]; rfl
          have HM := Lib.hid hm0
          clear hm0
          have g := H46.out
          go_wp2_with fail
          clear g g0
          go_region
          all_goals (try go_wp2_with fail)
          all_goals go_ret
          exact ⟨ret_str (by unfold graftS; rw [hpos.out]), (Below.refl _ _).drew⟩
        · have g0 : (c + 1 == n) = false := by simp [hm0]
          have HM := Lib.hid hm0
          have hlt2 : c + 1 < n := by omega
          clear hm0
          have g := H46.out
          go_wp2_with fail
          clear g g0
          go_roundw
          case rel => exact ⟨k + 1, c + 1, by omega, by go_num, rfl, by omega, by omega, trivial, by show _ = _; rw [he.out, HP.out, if_neg (by omega)]; congr 1; omega⟩
          case measure => simp [intOf]; omega
      | false =>
        have hp := posFrom_other (off := k) (n := n - (c + 1)) hlt h46
        have HP := Lib.hid hp
        have H46 := Lib.hid h46
        clear hp h46
        have g0 : (c == n) = false := by simp; omega
        have g := H46.out
        go_wp2_with fail
        clear g g0
        go_roundw
        case rel => exact ⟨k + 1, c, by omega, by go_num, rfl, by omega, by omega, trivial, by show _ = _; rw [he.out, HP.out]⟩
        case measure => simp [intOf]; omega
    · obtain rfl : k = s.size := by omega
      exfalso
      have h1 := he.out
      rw [posFrom_end] at h1
      have := HP0.out
      omega

end Go.Proofs.Yteflpaebckichaa

/-! Graft -/
namespace Go.Proofs.Yteflpaebckichaa
open Go.RowKit

theorem limitS_yes (s : ByteArray) (w : World) (h : (s.size : Int) ≤ 25) : Calls Try.prog 117 #[.string s] w fun e w' => e = .returned (.tuple #[.string s, .bool true]) ∧ w = w' := by
  go_enter Try.func117, Try.ntmps117
  go_wp2_with fail
  go_ret2
  exact ⟨rfl, rfl⟩
theorem limitS_no (s : ByteArray) (w : World) (h : 25 < (s.size : Int)) : Calls Try.prog 117 #[.string s] w fun e w' => e = .returned (.tuple #[.string ⟨#[]⟩, .bool false]) ∧ w = w' := by
  go_enter Try.func117, Try.ntmps117
  go_wp2_with fail
  go_ret2
  exact ⟨rfl, rfl⟩

def graftO (a : ByteArray) (n : Int) (b : ByteArray) : Option ByteArray :=
  match treeOf a, treeOf b with
  | some t, some u => if 0 ≤ n ∧ n ≤ t.carets ∧ t.carets + u.carets ≤ 8 then some (graftS a n b) else none
  | _, _ => none

set_option maxRecDepth 100000 in
set_option maxHeartbeats 1000000 in
theorem leafPlace_neg (s : ByteArray) (n : Int) (w : World) (hs : s.size ≤ 1000) (hn : n < 0) (hn' : -9223372036854775808 ≤ n) :
    Calls Try.prog 79 #[.string s, .int .i64 n] w (Quietly (.int .i64 (-1)) w) := by
  go_enter Try.func79, Try.ntmps79
  go_wp2_with fail
  go_loopw [1, 8] (fun v i wr => ∃ (k : Nat) (m : Int) (d : Nat), k ≤ s.size ∧ i = .int .i64 k ∧ v = .int .i64 m ∧ -9223372036854775808 ≤ m ∧ m ≤ 9223372036854775807 ∧ Hid (m < 0 ∨ 9223372036854775807 - (k : Int) ≤ m) ∧ wr = w.drewN d) (fun _ i _ => s.size - (intOf i).toNat)
  case atStart => exact ⟨0, n, 0, Nat.zero_le _, rfl, rfl, by omega, by omega, .inl hn, rfl⟩
  case round =>
    obtain ⟨k, m, d, hk, rfl, rfl, hm, hm', hor, rfl⟩ := hrel
    by_cases hlt : k < s.size
    · cases h46 : (((s[k]'hlt).toNat : Int) == 46) with
      | true =>
        have h46' : Hid ((((s[k]'hlt).toNat : Int) != 46) = false) := by show (_ != _) = false; rw [bne, h46]; rfl
        clear h46
        have g0 : (m == 0) = false := by have := hor.out; simp; omega
        by_cases hmin : m = -9223372036854775808
        · obtain rfl := hmin
          go_wp2_with fail
          have g := h46'.out
          have gz : ((⟨#[46]⟩ : ByteArray)[0]'(by decide)).toNat = 46 := rfl
          go_quiet (fail)
          go_wp2_with fail
          clear g gz g0
          go_roundw
          case rel => exact ⟨k + 1, 9223372036854775807, _, by omega, by go_num, by unfold wrap64; rfl, by omega, by omega, .inr (by omega), rfl⟩
          case measure => simp [intOf]; omega
        · have hm2 : -9223372036854775807 ≤ m := by omega
          clear hmin
          go_wp2_with fail
          have g := h46'.out
          have gz : ((⟨#[46]⟩ : ByteArray)[0]'(by decide)).toNat = 46 := rfl
          go_quiet (fail)
          go_wp2_with fail
          clear g gz g0
          go_roundw
          case rel => exact ⟨k + 1, m - 1, _, by omega, by go_num, rfl, by omega, by omega, by have := hor.out; show _ ∨ _; omega, rfl⟩
          case measure => simp [intOf]; omega
      | false =>
        have h46' : Hid ((((s[k]'hlt).toNat : Int) != 46) = true) := by show (_ != _) = true; rw [bne, h46]; rfl
        clear h46
        go_wp2_with fail
        have g := h46'.out
        have gz : ((⟨#[46]⟩ : ByteArray)[0]'(by decide)).toNat = 46 := rfl
        go_quiet (fail)
        go_wp2_with fail
        clear g gz
        go_roundw
        case rel => exact ⟨k + 1, m, _, by omega, by go_num, rfl, by omega, by omega, by have := hor.out; show _ ∨ _; omega, rfl⟩
        case measure => simp [intOf]; omega
    · obtain rfl : k = s.size := by omega
      go_wp2_with fail
      go_ret
      exact ⟨rfl, _, rfl⟩

set_option maxHeartbeats 400000 in
theorem implGraftAt_any (a : ByteArray) (n : Int) (b : ByteArray) (w : World) (ha : a.size ≤ 9223372036854775806) (hb : b.size ≤ 9223372036854775806) (hn' : -9223372036854775808 ≤ n) (hn : n ≤ 9223372036854775807) :
    Calls Try.prog 103 #[.string a, .int .i64 n, .string b] w (Gives (ans2 (graftO a n b)) w) := by
  cases h : treeOf a with
  | none =>
    rw [show graftO a n b = none by simp [graftO, h]]
    have H := Lib.hid h
    clear h
    go_enter Try.func103, Try.ntmps103
    go_wp2_with fail
    refine (implIsTree_no a _ ha H.out).mono ?_; rintro e w1 ⟨hb1, rfl⟩
    go_wp2_with fail
    go_ret2
    exact ⟨rfl, hb1⟩
  | some t =>
    obtain ⟨rfl, hc⟩ := treeOf_some h
    have st := t.str_size
    cases k : treeOf b with
    | none =>
      rw [show graftO t.str n b = none by simp [graftO, k]]
      have H := Lib.hid k
      clear h k
      go_enter Try.func103, Try.ntmps103
      go_wp2_with fail
      refine (implIsTree_yes t _ hc).mono ?_; rintro e w1 ⟨hb1, rfl⟩
      go_wp2_with fail
      refine (implIsTree_no b _ hb H.out).mono ?_; rintro e w2 ⟨hb2, rfl⟩
      go_wp2_with fail
      go_ret2
      exact ⟨rfl, nx hb1 hb2⟩
    | some u =>
      obtain ⟨rfl, hd⟩ := treeOf_some k
      have su := u.str_size
      rcases pos_str t n with ⟨hn0, hn1, hp0, hp1⟩ | ⟨hout, hp⟩
      · have gs := graft_size t n u.str hp0 hp1
        have HG : graftO t.str n u.str = if (t.carets : Int) + u.carets ≤ 8 then some (graftS t.str n u.str) else none := by
          simp only [graftO, h, k]
          by_cases hz : (t.carets : Int) + u.carets ≤ 8
          · rw [if_pos hz, if_pos (by omega)]
          · rw [if_neg hz, if_neg (by omega)]
        clear h k
        obtain ⟨q, hq⟩ : ∃ q : Nat, posFrom t.str.data.toList 0 n = q := ⟨(posFrom t.str.data.toList 0 n).toNat, by omega⟩
        have hgr : graftS t.str n u.str = t.str.extract 0 q ++ u.str ++ t.str.extract (q + 1) t.str.size := by unfold graftS; rw [hq]; rfl
        have hlq : q < t.str.size := by omega
        have hzt : t.str.size ≤ 1000 := by omega
        have hzu : u.str.size ≤ 1000 := by omega
        have hc3 := leafPlace_any t.str n
        rw [hq] at hc3
        have HQ := Lib.hid hgr
        have GS := Lib.hid gs
        by_cases hz : (t.carets : Int) + u.carets ≤ 8
        · rw [HG, if_pos hz]
          have hsz : Hid (((t.str.extract 0 q ++ u.str ++ t.str.extract (q + 1) t.str.size).size : Int) ≤ 25) := by
            show _ ≤ _
            rw [← hgr, gs]; omega
          clear HG hq hgr gs hp0 hp1 st su
          go_enter Try.func103, Try.ntmps103
          go_wp2_with fail
          refine (implIsTree_yes t _ hc).mono ?_; rintro e w1 ⟨hb1, rfl⟩
          go_wp2_with fail
          refine (implIsTree_yes u _ hd).mono ?_; rintro e w2 ⟨hb2, rfl⟩
          go_wp2_with fail
          refine (hc3 _ ha hn0 hn).mono ?_; rintro e w3 ⟨rfl, d, hw3⟩; have hb3 : Below w.heap.size w w3 := by rw [hw3]; exact drewB (nx hb1 hb2) d
          clear hw3
          go_wp2_with fail
          have hq1 : (q : Int) ≤ (t.str.size : Int) := by omega
          have hq2 : (q : Int) + 1 ≤ (t.str.size : Int) := by omega
          go_quiet ((go_at_call 117; exact quiet_eq (limitS_yes _ _ hsz.out)))
          go_wp2_with fail
          go_ret2
          exact ⟨by rw [HQ.out]; rfl, drewB hb3 _⟩
        · rw [HG, if_neg hz]
          have hsz : Hid (25 < ((t.str.extract 0 q ++ u.str ++ t.str.extract (q + 1) t.str.size).size : Int)) := by
            show _ < _
            rw [← hgr, gs]; omega
          clear HG hq hgr gs hp0 hp1 st su
          go_enter Try.func103, Try.ntmps103
          go_wp2_with fail
          refine (implIsTree_yes t _ hc).mono ?_; rintro e w1 ⟨hb1, rfl⟩
          go_wp2_with fail
          refine (implIsTree_yes u _ hd).mono ?_; rintro e w2 ⟨hb2, rfl⟩
          go_wp2_with fail
          refine (hc3 _ ha hn0 hn).mono ?_; rintro e w3 ⟨rfl, d, hw3⟩; have hb3 : Below w.heap.size w w3 := by rw [hw3]; exact drewB (nx hb1 hb2) d
          clear hw3
          go_wp2_with fail
          have hq1 : (q : Int) ≤ (t.str.size : Int) := by omega
          have hq2 : (q : Int) + 1 ≤ (t.str.size : Int) := by omega
          go_quiet ((go_at_call 117; exact quiet_eq (limitS_no _ _ hsz.out)))
          go_wp2_with fail
          go_ret2
          exact ⟨rfl, drewB hb3 _⟩
      · have HG : graftO t.str n u.str = none := by
          simp only [graftO, h, k]
          rw [if_neg (by omega)]
        rw [HG]
        have hl : ∀ w, Calls Try.prog 79 #[.string t.str, .int .i64 n] w (Quietly (.int .i64 (-1)) w) := by
          intro w
          by_cases hneg : n < 0
          · exact leafPlace_neg t.str n w (by omega) hneg hn'
          · have := leafPlace_any t.str n w ha (by omega) hn
            rwa [hp] at this
        clear HG hp h k hout st su
        go_enter Try.func103, Try.ntmps103
        go_wp2_with fail
        refine (implIsTree_yes t _ hc).mono ?_; rintro e w1 ⟨hb1, rfl⟩
        go_wp2_with fail
        refine (implIsTree_yes u _ hd).mono ?_; rintro e w2 ⟨hb2, rfl⟩
        go_wp2_with fail
        refine (hl _).mono ?_; rintro e w3 ⟨rfl, d, rfl⟩
        go_wp2_with fail
        go_ret2
        exact ⟨rfl, drewB (nx hb1 hb2) _⟩
end Go.Proofs.Yteflpaebckichaa

/-! Comb -/
namespace Go.Proofs.Yteflpaebckichaa
open Go.RowKit

def rcomb : Nat → Tr
  | 0 => .lf
  | n + 1 => .nd .lf (rcomb n)
def lcomb : Nat → Tr
  | 0 => .lf
  | n + 1 => .nd (lcomb n) .lf
theorem rcomb_carets (n : Nat) : (rcomb n).carets = n := by induction n with | zero => rfl | succ n ih => simp [rcomb, Tr.carets, ih]
theorem lcomb_carets (n : Nat) : (lcomb n).carets = n := by induction n with | zero => rfl | succ n ih => simp [lcomb, Tr.carets, ih]
theorem rcomb_mir (n : Nat) : (rcomb n).mir = lcomb n := by induction n with | zero => rfl | succ n ih => simp [rcomb, lcomb, Tr.mir, ih]

theorem under_right (k : Nat) (w : World) (h : k ≤ 100) :
    Calls Try.prog 115 #[.string (rcomb k).str] w fun e w' => e = .returned (.string (rcomb (k + 1)).str) ∧ w = w' := by
  have hz := (rcomb k).str_size
  rw [rcomb_carets] at hz
  have e1 : (rcomb (k + 1)).str = ⟨#[40, 46]⟩ ++ (rcomb k).str ++ ⟨#[41]⟩ := by
    apply ba_ext
    rw [rcomb]
    simp [Tr.str, Tr.text]
  have E1 := Lib.hid e1
  clear e1
  go_enter Try.func115, Try.ntmps115
  go_wp2_with fail
  go_ret
  exact ⟨ret_str (by rw [E1.out]), rfl⟩
theorem under_left (k : Nat) (w : World) (h : k ≤ 100) :
    Calls Try.prog 116 #[.string (lcomb k).str] w fun e w' => e = .returned (.string (lcomb (k + 1)).str) ∧ w = w' := by
  have hz := (lcomb k).str_size
  rw [lcomb_carets] at hz
  have e1 : (lcomb (k + 1)).str = ⟨#[40]⟩ ++ (lcomb k).str ++ ⟨#[46]⟩ ++ ⟨#[41]⟩ := by
    apply ba_ext
    rw [lcomb]
    simp [Tr.str, Tr.text]
  have E1 := Lib.hid e1
  clear e1
  go_enter Try.func116, Try.ntmps116
  go_wp2_with fail
  go_ret
  exact ⟨ret_str (by rw [E1.out]), rfl⟩

def combO (g : Nat → Tr) (n : Int) : Option Tr := if 0 ≤ n ∧ n ≤ 8 then some (g n.toNat) else none

set_option maxHeartbeats 400000 in
theorem comb_any (g : Nat → Tr) (f : FuncId) (n : Int) (w : World) (h0 : g 0 = .lf)
    (hf : ∀ k w, k ≤ 100 → Calls Try.prog f #[.string (g k).str] w fun e w' => e = .returned (.string (g (k + 1)).str) ∧ w = w')
    (hcall : ∀ (args : Array Value) (w : World), (callFunc f args).run Try.prog w = .ok (.enter f args) w) :
    Calls Try.prog 114 #[.int .i64 n, .func (Fn.func f) #[] #[]] w fun e w' => e = .returned (ansV (combO g n)) ∧ w = w' := by
  unfold combO
  by_cases h1 : n < 0
  · rw [if_neg (by omega)]
    clear hf
    go_enter Try.func114, Try.ntmps114
    go_wp2_with fail
    go_ret2
    exact ⟨rfl, rfl⟩
  · by_cases h2 : 8 < n
    · rw [if_neg (by omega)]
      clear hf
      go_enter Try.func114, Try.ntmps114
      go_wp2_with fail
      go_ret2
      exact ⟨rfl, rfl⟩
    · rw [if_pos (by omega)]
      have HF := Lib.hid hf
      have H0 := Lib.hid h0
      clear hf h0
      go_enter Try.func114, Try.ntmps114
      go_wp2_with fail
      go_loop [6, 14] (fun t i => ∃ k : Nat, (k : Int) ≤ n ∧ i = .int .i64 k ∧ t = .string (g k).str) (fun _ i => n.toNat - (intOf i).toNat)
      case atStart => exact ⟨0, by omega, rfl, by rw [H0.out]; rfl⟩
      case round =>
        obtain ⟨k, hk, rfl, rfl⟩ := hrel
        by_cases hlt : (k : Int) < n
        · go_wp2_with fail
          refine (HF.out k _ (by omega)).mono ?_; rintro e w1 ⟨rfl, rfl⟩
          go_wp2_with fail
          go_round
          case rel => exact ⟨k + 1, by omega, by go_num, rfl⟩
          case measure => simp [intOf]; omega
        · obtain rfl : n = k := by omega
          go_wp2_with fail
          go_ret2
          exact ⟨rfl, rfl⟩

theorem implRightComb_any (n : Int) (w : World) (_lo : -9223372036854775808 ≤ n) (_hi : n ≤ 9223372036854775807) :
    Calls Try.prog 101 #[.int .i64 n] w (Gives (ansV (combO rcomb n)) w) := by
  go_enter Try.func101, Try.ntmps101
  go_wp2_with fail
  refine (comb_any rcomb 115 n _ rfl under_right (fun _ _ => by kernel_rfl)).mono ?_; rintro e w1 ⟨rfl, rfl⟩
  unfold ansV
  go_wp2_with fail
  go_ret2
  exact ⟨rfl, Below.refl _ _⟩

theorem implLeftComb_any (n : Int) (w : World) (_lo : -9223372036854775808 ≤ n) (_hi : n ≤ 9223372036854775807) :
    Calls Try.prog 102 #[.int .i64 n] w (Gives (ansV (combO lcomb n)) w) := by
  go_enter Try.func102, Try.ntmps102
  go_wp2_with fail
  refine (comb_any lcomb 116 n _ rfl under_left (fun _ _ => by kernel_rfl)).mono ?_; rintro e w1 ⟨rfl, rfl⟩
  unfold ansV
  go_wp2_with fail
  go_ret2
  exact ⟨rfl, Below.refl _ _⟩

theorem trRight_any (n : Nat) (w : World) (h : n ≤ 100) :
    Calls Try.prog 76 #[.int .i64 n] w fun e w' => e = .returned (.string (rcomb n).str) ∧ w = w' := by
  go_enter Try.func76, Try.ntmps76
  go_wp2_with fail
  go_loop [0, 3] (fun i t => ∃ k : Nat, k ≤ n ∧ i = .int .i64 k ∧ t = .string (rcomb (n - k)).str) (fun i _ => (intOf i).toNat)
  case atStart => exact ⟨n, Nat.le_refl _, rfl, by rw [Nat.sub_self]; rfl⟩
  case round =>
    obtain ⟨k, hk, rfl, rfl⟩ := hrel
    by_cases hlt : (0 : Int) < k
    · have hc := rcomb_carets (n - k)
      have he : Hid (rcomb (n - k + 1) = rcomb (n - (k - 1))) := by show _ = _; congr 1; omega
      go_wp2_with fail
      refine (trOf_any .lf (rcomb (n - k)) _ (by simp [Tr.carets, hc]; omega)).mono ?_; rintro e w1 ⟨rfl, rfl⟩
      go_wp2_with fail
      go_round
      case rel => exact ⟨k - 1, by omega, by go_num, by rw [← he.out]; rfl⟩
      case measure => simp [intOf]; omega
    · obtain rfl : k = 0 := by omega
      go_wp2_with fail
      go_ret
      exact ⟨rfl, rfl⟩

end Go.Proofs.Yteflpaebckichaa

/-! GenC -/
namespace Go.Proofs.Yteflpaebckichaa
open Go.RowKit

/-- x(i) -/
def genP (i : Nat) : Pr := ((rcomb i).graft i (lcomb 2), rcomb (i + 2))
def genO (n : Int) : Option Pr := if 0 ≤ n ∧ n ≤ 6 then some (genP n.toNat) else none
theorem lcomb2_str : (lcomb 2).str = ⟨#[40, 40, 46, 46, 41, 46, 41]⟩ := by apply ba_ext; rfl

theorem trGraft_tr (t u : Tr) (n : Int) (w : World) (h : 0 ≤ n) (k : n ≤ t.carets) (ht : t.carets ≤ 100) (hu : u.carets ≤ 100) :
    Calls Try.prog 75 #[.string t.str, .int .i64 n, .string u.str] w (Gives (.string (t.graft n u).str) w) := by
  have hz := t.str_size
  have hy := u.str_size
  have hp := pos_str t n
  have := trGraft_any t.str u.str n w (by omega) (by omega) h (by omega) (by omega)
  rw [graft_str t u n h (by unfold Tr.leaves; omega)] at this
  exact this
theorem graftO_tr (t u : Tr) (n : Int) (ht : t.carets ≤ 8) (hu : u.carets ≤ 8) : graftO t.str n u.str = if 0 ≤ n ∧ n ≤ t.carets ∧ t.carets + u.carets ≤ 8 then some (t.graft n u).str else none := by
  unfold graftO
  rw [treeOf_str t ht, treeOf_str u hu]
  by_cases h : 0 ≤ n ∧ n ≤ t.carets ∧ t.carets + u.carets ≤ 8
  · have := graft_str t u n h.1 (by unfold Tr.leaves; omega)
    simp [h, this]
  · simp [h]

set_option maxHeartbeats 1000000 in
theorem prGenerator_any (i : Nat) (w : World) (hi : i ≤ 20) :
    Calls Try.prog 63 #[.int .i64 i] w (Gives (.agg #[.string (genP i).1.str, .string (genP i).2.str]) w) := by
  have R1 := fun w => trRight_any i w (by omega)
  have R2 := fun w => trRight_any (i + 2) w (by omega)
  have c1 := rcomb_carets i
  have T := fun w => trGraft_tr (rcomb i) (lcomb 2) i w (by omega) (by omega) (by omega) (by decide)
  rw [lcomb2_str] at T
  have e2 : ((i + 2 : Nat) : Int) = (i : Int) + 2 := by omega
  rw [e2] at R2
  unfold genP
  generalize rcomb i = X at *
  generalize rcomb (i + 2) = Y at *
  generalize X.graft i (lcomb 2) = U at *
  clear e2 c1
  go_enter Try.func63, Try.ntmps63
  go_wp2_with fail
  have hb0 : Below w.heap.size w (w.alloc (.cells #[.string ⟨#[]⟩, .string ⟨#[]⟩] 27 (0, 0))) := nxAlloc (Below.refl _ _) _
  have hx := heap_alloc_at w (.cells #[.string ⟨#[]⟩, .string ⟨#[]⟩] 27 (0, 0))
  generalize w.alloc (.cells #[.string ⟨#[]⟩, .string ⟨#[]⟩] 27 (0, 0)) = w0 at *
  refine (R1 _).mono ?_; rintro e wc ⟨rfl, rfl⟩
  go_wp2_with fail
  refine (T _).mono ?_; rintro e w1 ⟨rfl, hb1⟩
  have hbw1 := nx hb0 hb1
  replace hx := heap_keep hb1 hx
  clear hb1 hb0
  obtain ⟨n1, n2⟩ := two_cells hx
  obtain ⟨f1, f2⟩ := two_frozen hx
  go_wp2_with fail
  refine (R2 _).mono ?_; rintro e wc ⟨rfl, rfl⟩
  go_wp2_with fail
  obtain ⟨q1, q2⟩ := two_cells (set_two (.string U.str) (.string Y.str) hx)
  refine bodyPost_ret (v := .agg #[.string U.str, .string Y.str]) (by simp [q1, q2, results, Try.results63, go_sem]) rfl ⟨rfl, ?_⟩
  exact (hbw1.setCell (Nat.le_refl _) _).setCell (Nat.le_refl _) _

set_option maxRecDepth 100000 in
set_option maxHeartbeats 2000000 in
theorem implGeneratorPair_any (n : Int) (w : World) (lo : -9223372036854775808 ≤ n) (hi : n ≤ 9223372036854775807) :
    Calls Try.prog 91 #[.int .i64 n] w (Gives (ansPr (genO n)) w) := by
  unfold genO
  by_cases h : 0 ≤ n ∧ n ≤ 6
  rotate_left
  · rw [if_neg h]
    by_cases h1 : n < 0
    · skip
      clear h
      go_enter Try.func91, Try.ntmps91
      go_wp2_with fail
      refine bodyPost_ret (v := .tuple #[.agg #[.string ⟨#[]⟩, .string ⟨#[]⟩], .bool false]) (by simp [results, Try.results91, go_sem]) rfl ⟨rfl, ?_⟩
      exact nxAlloc (Below.refl _ _) _
    · have h2 : 6 < n := by omega
      clear h
      go_enter Try.func91, Try.ntmps91
      go_wp2_with fail
      refine bodyPost_ret (v := .tuple #[.agg #[.string ⟨#[]⟩, .string ⟨#[]⟩], .bool false]) (by simp [results, Try.results91, go_sem]) rfl ⟨rfl, ?_⟩
      exact nxAlloc (Below.refl _ _) _
  rw [if_pos h]
  obtain ⟨i, rfl⟩ : ∃ i : Nat, n = i := ⟨n.toNat, by omega⟩
  have hi6 : i ≤ 6 := by omega
  have ei : ((i : Int)).toNat = i := by omega
  rw [ei]
  have R1 : ∀ w, Calls Try.prog 101 #[.int .i64 i] w (Gives (ansV (combO rcomb i)) w) := fun w => implRightComb_any i w (by omega) (by omega)
  have R2 : ∀ w, Calls Try.prog 102 #[.int .i64 2] w (Gives (ansV (combO lcomb 2)) w) := fun w => implLeftComb_any 2 w (by omega) (by omega)
  have R3 : ∀ w, Calls Try.prog 101 #[.int .i64 ((i : Int) + 2)] w (Gives (ansV (combO rcomb ((i : Int) + 2))) w) := fun w => implRightComb_any ((i : Int) + 2) w (by omega) (by omega)
  have c1 := rcomb_carets i
  have c2 : (lcomb 2).carets = 2 := rfl
  have s1 := (rcomb i).str_size
  have s2 : (lcomb 2).str.size = 7 := rfl
  have T := fun w => implGraftAt_any (rcomb i).str i (lcomb 2).str w (by omega) (by omega) (by omega) (by omega)
  rw [graftO_tr (rcomb i) (lcomb 2) i (by omega) (by omega), if_pos (by omega)] at T
  unfold combO at R1 R2 R3
  rw [if_pos (by omega)] at R1 R3
  rw [if_pos (by decide)] at R2
  have e3 : ((i : Int) + 2).toNat = i + 2 := by omega
  have e4 : ((2 : Int)).toNat = 2 := rfl
  rw [e3] at R3
  rw [e4] at R2
  rw [ei] at R1
  unfold genP
  generalize rcomb i = X at *
  generalize rcomb (i + 2) = Y at *
  generalize lcomb 2 = V at *
  generalize X.graft i V = U at *
  unfold ansV at R1 R2 R3
  unfold ans2 at T
  simp only [trS, trB, Option.getD_some, Option.isSome_some] at R1 R2 R3 T
  clear h ei e3 e4 c1 c2 s1 s2
  go_enter Try.func91, Try.ntmps91
  go_wp2_with fail
  have hb0 : Below w.heap.size w (w.alloc (.cells #[.string ⟨#[]⟩, .string ⟨#[]⟩] 27 (0, 0))) := nxAlloc (Below.refl _ _) _
  have hx := heap_alloc_at w (.cells #[.string ⟨#[]⟩, .string ⟨#[]⟩] 27 (0, 0))
  generalize w.alloc (.cells #[.string ⟨#[]⟩, .string ⟨#[]⟩] 27 (0, 0)) = w0 at *
  refine (R1 _).mono ?_; rintro e w1 ⟨rfl, hb1⟩
  have hbw1 := nx hb0 hb1
  replace hx := heap_keep hb1 hx
  clear hb1 hb0
  go_wp2_with fail
  refine (R2 _).mono ?_; rintro e w2 ⟨rfl, hb2⟩
  have hbw2 := nx hbw1 hb2
  replace hx := heap_keep hb2 hx
  clear hb2 hbw1
  go_wp2_with fail
  refine (T _).mono ?_; rintro e w3 ⟨rfl, hb3⟩
  have hbw3 := nx hbw2 hb3
  replace hx := heap_keep hb3 hx
  clear hb3 hbw2
  go_wp2_with fail
  refine (R3 _).mono ?_; rintro e w4 ⟨rfl, hb4⟩
  have hbw4 := nx hbw3 hb4
  replace hx := heap_keep hb4 hx
  clear hb4 hbw3
  obtain ⟨n1, n2⟩ := two_cells hx
  obtain ⟨f1, f2⟩ := two_frozen hx
  go_wp2_with fail
  obtain ⟨q1, q2⟩ := two_cells (set_two (.string U.str) (.string Y.str) hx)
  refine bodyPost_ret (v := .tuple #[.agg #[.string U.str, .string Y.str], .bool true]) (by simp [q1, q2, results, Try.results91, go_sem]) rfl ⟨rfl, ?_⟩
  exact (hbw4.setCell (Nat.le_refl _) _).setCell (Nat.le_refl _) _
end Go.Proofs.Yteflpaebckichaa

/-! Inv -/
namespace Go.Proofs.Yteflpaebckichaa
open Go.RowKit

theorem prInverse_any (a b : ByteArray) (w : World) : Calls Try.prog 62 #[.agg #[.string a, .string b]] w (Gives (.agg #[.string b, .string a]) w) := by
  go_enter Try.func62, Try.ntmps62
  go_wp2
  refine bodyPost_ret (v := .agg #[.string b, .string a]) (by simp [results, Try.results62, go_sem]) rfl ⟨rfl, ?_⟩
  exact nxAlloc (nxAlloc (Below.refl _ _) _) _

theorem inverse_any (a b : ByteArray) (w : World) : Calls Try.prog 93 #[.agg #[.string a, .string b]] w (Gives (.agg #[.string b, .string a]) w) := by
  go_enter Try.func93, Try.ntmps93
  go_wp2
  refine bodyPost_ret (v := .agg #[.string b, .string a]) (by simp [results, Try.results93, go_sem]) rfl ⟨rfl, ?_⟩
  exact nxAlloc (nxAlloc (Below.refl _ _) _) _
end Go.Proofs.Yteflpaebckichaa

/-! Mir -/
namespace Go.Proofs.Yteflpaebckichaa
open Go.RowKit

/-- A call that hands back a node of a tree. -/
def GivesNode (t : Tr) (w : World) (e : Ending) (w' : World) : Prop :=
  ∃ b : Nat, NodeAt w' t b ∧ Below w.heap.size w w' ∧ e = .returned (.pointer (some ⟨b, 0, none⟩))

theorem below_two {w w1 : World} {b : Nat} {u v : Value} (hb : Below w.heap.size w w1) (h1 : w.cell? ⟨b, 0, none⟩ = some u) (h2 : w.cell? ⟨b, 1, none⟩ = some v) :
    w1.cell? ⟨b, 0, none⟩ = some u ∧ w1.cell? ⟨b, 1, none⟩ = some v := by
  have hl := World.block_lt_of_cell? w _ h1
  exact ⟨(hb.cell (p := ⟨b, 0, none⟩) hl).trans h1, (hb.cell (p := ⟨b, 1, none⟩) hl).trans h2⟩

end Go.Proofs.Yteflpaebckichaa

/-! Join -/
namespace Go.Proofs.Yteflpaebckichaa
open Go.RowKit

set_option maxRecDepth 100000 in
set_option maxHeartbeats 2000000 in
theorem join_any (t : Tr) : ∀ (u : Tr) (b c : Nat) (w : World), NodeAt w t b → NodeAt w u c →
    Calls Try.prog 95 #[.pointer (some ⟨b, 0, none⟩), .pointer (some ⟨c, 0, none⟩)] w (GivesNode (t.join u) w) := by
  induction t with
  | lf =>
    intro u b c w h k
    have H := Lib.hid h
    have K := Lib.hid k
    clear h k
    go_enter Try.func95, Try.ntmps95
    go_wp2_with fail
    refine (isLeaf_any .lf b _ H.out).mono ?_; rintro e w1 ⟨rfl, rfl⟩
    simp only [Tr.isLf]
    go_wp2_with fail
    go_ret
    exact ⟨c, K.out, Below.refl _ _, rfl⟩
  | nd l r ihl ihr =>
    intro u b c w h k
    cases u with
    | lf =>
      have H := Lib.hid h
      have K := Lib.hid k
      clear h k ihl ihr
      go_enter Try.func95, Try.ntmps95
      go_wp2_with fail
      refine (isLeaf_any (.nd l r) b _ H.out).mono ?_; rintro e w1 ⟨rfl, rfl⟩
      simp only [Tr.isLf]
      go_wp2_with fail
      refine (isLeaf_any .lf c _ K.out).mono ?_; rintro e w1 ⟨rfl, rfl⟩
      simp only [Tr.isLf]
      go_wp2_with fail
      go_ret
      exact ⟨b, H.out, Below.refl _ _, rfl⟩
    | nd p q =>
      have H := Lib.hid h
      have K := Lib.hid k
      obtain ⟨bl, br, h, hl, hr⟩ := h
      obtain ⟨cl, cr, k, kl, kr⟩ := k
      have h1 := two_left h
      have h2 := two_right h
      have k1 := two_left k
      have k2 := two_right k
      clear h k
      go_enter Try.func95, Try.ntmps95
      go_wp2_with fail
      refine (isLeaf_any (.nd l r) b _ H.out).mono ?_; rintro e w1 ⟨rfl, rfl⟩
      simp only [Tr.isLf]
      go_wp2_with fail
      refine (isLeaf_any (.nd p q) c _ K.out).mono ?_; rintro e w1 ⟨rfl, rfl⟩
      simp only [Tr.isLf]
      go_wp2_with fail
      have hb0 := Below.refl w.heap.size w
      go_region_held3 (fun w' => w'.cell? ⟨b, 0, none⟩ = some (.pointer (some ⟨bl, 0, none⟩)) ∧ w'.cell? ⟨b, 1, none⟩ = some (.pointer (some ⟨br, 0, none⟩)) ∧ w'.cell? ⟨c, 0, none⟩ = some (.pointer (some ⟨cl, 0, none⟩)) ∧ w'.cell? ⟨c, 1, none⟩ = some (.pointer (some ⟨cr, 0, none⟩)))
          (first
            | exact ⟨h1, h2, k1, k2⟩
            | exact ⟨q1, q2, q3, q4⟩
            | exact ⟨s1, s2, s3, s4⟩
            | exact ⟨(a1 _).1, (a1 _).2, (a2 _).1, (a2 _).2⟩)
          (first
          | (go_at_call_of 95 (some (⟨bl, 0, none⟩ : Addr)); refine (ihl p bl cl _ ?_ ?_).mono ?_; exact hl.keep hb0.drew; exact kl.keep hb0.drew; rintro e w1 ⟨b1, hn1, hb1, rfl⟩; have hb1' := nx hb0.drew hb1; obtain ⟨q1, q2⟩ := below_two hb1' h1 h2; obtain ⟨q3, q4⟩ := below_two hb1' k1 k2)
          | (go_at_call_of 95 (some (⟨br, 0, none⟩ : Addr)); refine (ihr q br cr _ ?_ ?_).mono ?_; exact hr.keep hb1'; exact kr.keep hb1'; rintro e w2 ⟨b2, hn2, hb2, rfl⟩; have hb2' := nx hb1' hb2; obtain ⟨s1, s2⟩ := below_two hb2' h1 h2; obtain ⟨s3, s4⟩ := below_two hb2' k1 k2; have a1 := fun o => below_two (nxAlloc hb2' o) h1 h2; have a2 := fun o => below_two (nxAlloc hb2' o) k1 k2))
      all_goals (try go_wp2_with fail)
      all_goals go_ret
      all_goals exact ⟨_, node_new hn1 hb2 hn2, nxAlloc hb2' _, rfl⟩
end Go.Proofs.Yteflpaebckichaa

/-! Build -/
namespace Go.Proofs.Yteflpaebckichaa
open Go.RowKit

theorem info_byte : (Try.prog.info? 5).map (fun i => (i.zero, i.size, i.bytes)) = some (some (.int .u8 0), 1, 1) := by kernel_rfl
theorem info_bld : (Try.prog.info? 119).map (fun i => i.size) = some 2 := by kernel_rfl
theorem lies_bld : liesAt Try.prog Try.prog.depth 119 (2 / Try.prog.cellsOf 119) 0 119 1 = true := by kernel_rfl
theorem cells_byte : Try.prog.cellsOf 5 = 1 := by kernel_rfl

set_option maxRecDepth 100000 in
theorem copyCheck_fresh (b : Nat) (w : World) (h0 : w.cell? ⟨b, 0, none⟩ = some (.pointer none)) (hsh : w.shape? b = some (119, 2)) (hfz : w.frozen? ⟨b, 0, none⟩ = false) :
    Calls Try.prog 118 #[.pointer (some ⟨b, 0, none⟩)] w fun e w' => e = .returned (.tuple #[]) ∧ w' = w.setCell ⟨b, 0, none⟩ (.pointer (some ⟨b, 0, none⟩)) := by
  obtain ⟨j, hj, hjs⟩ := Option.map_eq_some_iff.1 info_bld
  go_enter Try.func118, Try.ntmps118
  go_wp2
  rw [Lib.run_to_unsafe w ⟨b, 0, none⟩ Try.underlying116 Try.underlying134 hj (by rw [hjs]; decide) hsh (Nat.zero_lt_succ 1)]
  simp only [Result.andThen]
  rw [Oper.upon_value]
  go_wp2
  rw [run_callFunc_extern Try.func121 (by kernel_rfl) (by kernel_rfl) (by kernel_rfl) (e := Extern.AbiNoEscape.same) (by kernel_rfl)]
  rw [Lib.run_noEscape]
  simp only [Result.andThen]
  rw [Oper.upon_value]
  go_wp2
  rw [Lib.run_from_unsafe w ⟨b, 0, none⟩ Try.underlying134 Try.underlying116 hj hsh lies_bld]
  simp only [Result.andThen]
  rw [Oper.upon_value]
  go_wp2
  go_end0
  exact ⟨rfl, rfl⟩

set_option maxRecDepth 100000 in
theorem copyCheck_used (b : Nat) (w : World) (h0 : w.cell? ⟨b, 0, none⟩ = some (.pointer (some ⟨b, 0, none⟩))) :
    Calls Try.prog 118 #[.pointer (some ⟨b, 0, none⟩)] w fun e w' => e = .returned (.tuple #[]) ∧ w' = w := by
  obtain ⟨j, hj, _⟩ := Option.map_eq_some_iff.1 info_bld
  go_enter Try.func118, Try.ntmps118
  go_wp2
  rw [Lib.run_neq_ptr_same w _ Try.underlying116 hj]
  go_wp2
  go_end0
  exact ⟨rfl, rfl⟩

/-- A builder in the block b that holds the bytes bs; its row is of blocks from B on. -/
abbrev IsBld (B b : Nat) (bs : List Value) (w : World) : Prop := Lib.IsBuilder 119 5 B b bs w

theorem copyCheck_any (B b : Nat) (bs : List Value) (w : World) (h : IsBld B b bs w) :
    Calls Try.prog 118 #[.pointer (some ⟨b, 0, none⟩)] w fun e w' => e = .returned (.tuple #[]) ∧ (Lib.BuilderAt 119 5 B b (.pointer (some ⟨b, 0, none⟩)) bs w' ∧ Below B w w') := by
  rcases h with h | h
  · refine (copyCheck_fresh b w h.cell0 h.shape h.frozen0).mono ?_
    rintro e w' ⟨rfl, rfl⟩
    exact ⟨rfl, h.used _, (Below.refl B w).setCell (p := ⟨b, 0, none⟩) h.1 _⟩
  · refine (copyCheck_used b w h.cell0).mono ?_
    rintro e w' ⟨rfl, rfl⟩
    exact ⟨rfl, h, Below.refl B _⟩

set_option maxHeartbeats 2000000 in
set_option maxRecDepth 100000 in
theorem writeByte_any (B b : Nat) (bs : List Value) (c : Int) (w : World) (h : IsBld B b bs w) (hlen : bs.length + 1 ≤ 140737488355328) (hBw : B ≤ w.heap.size) :
    Calls Try.prog 105 #[.pointer (some ⟨b, 0, none⟩), .int .u8 c] w fun e w' => e = .returned .nilIface ∧ IsBld B b (bs ++ [.int .u8 c]) w' ∧ Below B w w' := by
  obtain ⟨i0, hi, hz0, hz1, hz2⟩ := info_parts info_byte
  go_enter Try.func105, Try.ntmps105
  go_wp2_with fail
  refine (copyCheck_any B b bs _ h).mono ?_
  rintro e w1 ⟨rfl, h1, hb1⟩
  obtain ⟨hB, v, hbk, hown, hne⟩ := h1
  have c0 : w1.cell? ⟨b, 0, none⟩ = some (.pointer (some ⟨b, 0, none⟩)) := by rw [Lib.cell_of_heap hbk]; rfl
  have c1 : w1.cell? ⟨b, 1, none⟩ = some v := by rw [Lib.cell_of_heap hbk]; rfl
  go_wp2_with (at_builtin; refine wpList_append_own _ rfl _ _ 117 rfl B 5 i0 (.int .u8 0) 1 1 Try.underlying117 hi hz0 hz1 hz2 rfl (by decide) _ _ _ rfl (hown.alloc _) ⟨w1.heap.size, 0, none⟩ 1 1 [.int .u8 c] rfl rfl ?c1 ?c2 ?c3 ?c4 ?c5 ?_)
  case c1 =>
    intro j u hj
    match j, hj with
    | 0, hj => simp at hj; subst hj; simp [Addr.add]
  case c2 => intro u hu; simp at hu; subst hu; rfl
  case c3 => unfold maxLen; omega
  case c4 => omega
  case c5 => have := hb1.size; simp; omega
  intro v' w2 hown' hgrow _
  have hlt : b < w1.heap.size := lt_of_block hbk
  have hb2 : w2.heap[b]? = some (.cells #[.pointer (some ⟨b, 0, none⟩), v] 119 (0, 0)) := by
    rw [hgrow.block b (by simp; omega) (fun e => hne e.symm), Lib.alloc_old w1 _ b hlt]
    exact hbk
  have d0 : w2.cell? ⟨b, 0, none⟩ = some (.pointer (some ⟨b, 0, none⟩)) := by rw [Lib.cell_of_heap hb2]; rfl
  have d1 : w2.cell? ⟨b, 1, none⟩ = some v := by rw [Lib.cell_of_heap hb2]; rfl
  have f1 : w2.frozen? ⟨b, 1, none⟩ = false := Lib.frozen_of_heap hb2 1
  obtain ⟨g, cap, rfl⟩ : ∃ g cap, v' = .slice (some ⟨g, 0, none⟩) (bs.length + 1) cap := by
    rcases hown'.2 with ⟨_, h0⟩ | ⟨g, cap, cur, hv, _⟩
    · omega
    · exact ⟨g, cap, hv⟩
  go_wp2
  go_ret
  refine ⟨rfl, ?_, ?_⟩
  · exact .inr (Lib.BuilderAt.put (T := 119) (e := 5) hB hb2 (bs' := bs ++ [.int .u8 c]) (by simpa using hown') (by decide))
  · exact ((hb1.alloc (by have := hb1.size; omega) _).grown hgrow (by have := hb1.size; simp; omega) (fun k hk => (hown.lt k hk).1)).setCell (p := ⟨b, 1, none⟩) hB _

set_option maxHeartbeats 2000000 in
set_option maxRecDepth 100000 in
theorem writeString_any (B b : Nat) (bs : List Value) (s : ByteArray) (w : World) (h : IsBld B b bs w) (hlen : bs.length + s.size ≤ 140737488355328) (hBw : B ≤ w.heap.size) :
    Calls Try.prog 106 #[.pointer (some ⟨b, 0, none⟩), .string s] w fun e w' => e = .returned (.tuple #[.int .i64 s.size, .nilIface]) ∧ IsBld B b (bs ++ Lib.strCells s) w' ∧ Below B w w' := by
  obtain ⟨i0, hi, hz0, hz1, hz2⟩ := info_parts info_byte
  go_enter Try.func106, Try.ntmps106
  go_wp2_with fail
  refine (copyCheck_any B b bs _ h).mono ?_
  rintro e w1 ⟨rfl, h1, hb1⟩
  obtain ⟨hB, v, hbk, hown, hne⟩ := h1
  have c0 : w1.cell? ⟨b, 0, none⟩ = some (.pointer (some ⟨b, 0, none⟩)) := by rw [Lib.cell_of_heap hbk]; rfl
  have c1 : w1.cell? ⟨b, 1, none⟩ = some v := by rw [Lib.cell_of_heap hbk]; rfl
  go_wp2_with (at_builtin; refine Lib.wpList_append_own_string _ rfl _ _ 117 9 rfl B 5 i0 Try.underlying117 Try.underlying9 hi hz0 hz1 hz2 _ _ _ rfl hown s rfl ?c3 ?c4 ?c5 ?_)
  case c3 => unfold maxLen; omega
  case c4 => omega
  case c5 => have := hb1.size; omega
  intro v' w2 hown' hgrow _
  have hlt : b < w1.heap.size := lt_of_block hbk
  have hb2 : w2.heap[b]? = some (.cells #[.pointer (some ⟨b, 0, none⟩), v] 119 (0, 0)) := by
    rw [hgrow.block b hlt (fun e => hne e.symm)]
    exact hbk
  have d0 : w2.cell? ⟨b, 0, none⟩ = some (.pointer (some ⟨b, 0, none⟩)) := by rw [Lib.cell_of_heap hb2]; rfl
  have d1 : w2.cell? ⟨b, 1, none⟩ = some v := by rw [Lib.cell_of_heap hb2]; rfl
  have f1 : w2.frozen? ⟨b, 1, none⟩ = false := Lib.frozen_of_heap hb2 1
  obtain ⟨ao, n', cap, rfl⟩ : ∃ ao n' cap, v' = .slice ao n' cap := by
    rcases hown'.2 with ⟨hv, _⟩ | ⟨g, cap, cur, hv, _⟩
    · exact ⟨_, _, _, hv⟩
    · exact ⟨_, _, _, hv⟩
  go_wp2
  go_ret2
  refine ⟨rfl, ?_, ?_⟩
  · exact .inr (Lib.BuilderAt.put (T := 119) (e := 5) hB hb2 (bs' := bs ++ Lib.strCells s) (by simpa [Lib.strCells_length] using hown') (by decide))
  · exact (hb1.grown hgrow (by have := hb1.size; omega) (fun k hk => (hown.lt k hk).1)).setCell (p := ⟨b, 1, none⟩) hB _

set_option maxHeartbeats 2000000 in
set_option maxRecDepth 100000 in
theorem builderString_any (B b : Nat) (l : List UInt8) (w : World) (h : IsBld B b (Lib.byteCells l) w) (h0 : l ≠ []) :
    Calls Try.prog 107 #[.pointer (some ⟨b, 0, none⟩)] w fun e w' => e = .returned (.string ⟨l.toArray⟩) ∧ Below B w w' := by
  obtain ⟨p, hB, v, hbk, hown, hne⟩ : ∃ p, Lib.BuilderAt 119 5 B b p (Lib.byteCells l) w := by
    rcases h with h | h
    · exact ⟨_, h⟩
    · exact ⟨_, h⟩
  have hl0 : l.length ≠ 0 := by simpa using h0
  rw [Lib.byteCells_length] at hown
  obtain ⟨g, cap, cur, rfl, hbg, hg, hnc, hcm, hcs, htake⟩ : ∃ g cap cur, v = .slice (some ⟨g, 0, none⟩) l.length cap ∧ B ≤ g ∧ w.heap[g]? = some (.cells cur 5 (0, 0)) ∧ l.length ≤ cap ∧ cap ≤ maxLen ∧ cur.size = cap * 1 ∧ cur.toList.take (l.length * 1) = Lib.byteCells l := by
    rcases hown.2 with ⟨_, hz⟩ | ⟨g, cap, cur, hv, r⟩
    · exact absurd hz hl0
    · exact ⟨g, cap, cur, hv, r⟩
  have c1 : w.drew.cell? ⟨b, 1, none⟩ = some (.slice (some ⟨g, 0, none⟩) l.length cap) := by
    have : w.drew.heap[b]? = some (.cells #[p, .slice (some ⟨g, 0, none⟩) l.length cap] 119 (0, 0)) := hbk
    rw [Lib.cell_of_heap this]; rfl
  have hSD : (Builtin.unsafeSliceData_ #[117] 130 #[.slice (some ⟨g, 0, none⟩) l.length cap]).run Try.prog w.drew = .ok (.pointer (some ⟨g, 0, none⟩)) w.drew :=
    Lib.run_unsafeSliceData_row _ _ _ _ _ _ (by omega)
  have hUS : (Builtin.unsafeString_ #[130, 3] 9 #[.pointer (some ⟨g, 0, none⟩), .int .i64 l.length]).run Try.prog w.drew = .ok (.string ⟨l.toArray⟩) (w.drew.freeze ⟨g, 0, none⟩ l.length) := by
    refine Lib.run_unsafeString_row w.drew 130 3 9 5 Try.underlying130 cells_byte g cur.size (by have hg' : w.drew.heap[g]? = some (.cells cur 5 (0, 0)) := hg; simp [World.shape?, hg']) l h0 (by omega) (by unfold maxLen at hcm; omega) ?_
    intro j x hx
    have := hown.cells (g := g) rfl j (.int .u8 x.toNat) (by simp [Lib.byteCells, hx])
    exact this
  clear hown hg htake hbk
  go_enter Try.func107, Try.ntmps107
  go_wp2
  go_region
  all_goals (go_wp2; go_ret; exact ⟨rfl, Lib.below_freeze (Below.drew (Below.refl B w)) (p := ⟨g, 0, none⟩) hbg _⟩)
end Go.Proofs.Yteflpaebckichaa

/-! Fill -/
namespace Go.Proofs.Yteflpaebckichaa
open Go.RowKit

/-- The texts of what a greater tree has at the leaves of a part of it. -/
def subsS (a g : Tr) : List ByteArray := (a.subs g).map Tr.str
theorem subsS_length (a g : Tr) (h : a.part g = true) : (subsS a g).length = a.leaves := by
  unfold subsS; rw [List.length_map]; exact (below_carets a g h).2

set_option maxRecDepth 100000 in
set_option maxHeartbeats 2000000 in
theorem prParts_any (t : Tr) : ∀ (u : Tr) (w : World), t.part u = true → u.carets ≤ 60 →
    Calls Try.prog 61 #[.string t.str, .string u.str] w (GivesTexts (subsS t u) w) := by
  obtain ⟨i0, hi, hz0, hz1, hz2⟩ := info_parts info_str
  induction t with
  | lf =>
    intro u w hp hu
    go_enter Try.func61, Try.ntmps61
    go_wp2_with fail
    refine (trLeaf_any .lf _).mono ?_; rintro e w1 ⟨rfl, rfl⟩
    simp only [Tr.isLf]
    go_wp2_with fail
    go_ret
    exact ⟨_, 1, OwnS.one _ _, nxAlloc (Below.refl _ _) _, rfl⟩
  | nd l r ihl ihr =>
    intro u w hp hu
    cases u with
    | lf => simp [Tr.part] at hp
    | nd p q =>
      simp only [Tr.part, Bool.and_eq_true] at hp
      obtain ⟨hp1, hp2⟩ := hp
      have hu' : p.carets + q.carets + 1 ≤ 60 := hu
      have ht1 := (below_carets l p hp1).1
      have ht2 := (below_carets r q hp2).1
      have ll := subsS_length l p hp1
      have lr := subsS_length r q hp2
      obtain ⟨A, hA⟩ : ∃ A, A = subsS l p := ⟨_, rfl⟩
      obtain ⟨B, hB⟩ : ∃ B, B = subsS r q := ⟨_, rfl⟩
      have hC : subsS (.nd l r) (.nd p q) = A ++ B := by rw [hA, hB]; simp [subsS, Tr.subs]
      have jl := fun w => ihl p w hp1 (by omega)
      have jr := fun w => ihr q w hp2 (by omega)
      rw [← hA] at ll jl
      rw [← hB] at lr jr
      rw [hC]
      have hAn : A.length ≤ 61 := by rw [ll]; unfold Tr.leaves; omega
      have hBn : B.length ≤ 61 := by rw [lr]; unfold Tr.leaves; omega
      have hBp : 0 < B.length := by rw [lr]; exact leaves_pos r
      have hAp : 0 < A.length := by rw [ll]; exact leaves_pos l
      clear ihl ihr hA hB hC ll lr hp1 hp2
      go_enter Try.func61, Try.ntmps61
      go_wp2_with fail
      refine (trLeaf_any (.nd l r) _).mono ?_; rintro e w1 ⟨rfl, rfl⟩
      simp only [Tr.isLf]
      go_wp2_with fail
      refine (trSides_any l r _ (by omega)).mono ?_; rintro e w1 ⟨rfl, hb1⟩
      go_wp2_with fail
      refine (trSides_any p q _ (by omega)).mono ?_; rintro e w1' ⟨rfl, hb1'⟩
      replace hb1 := nx hb1 hb1'
      clear hb1'
      go_wp2_with fail
      refine (jl _).mono ?_; rintro e w2 ⟨g1, cap1, own1, hb2, rfl⟩
      go_wp2_with fail
      refine (jr _).mono ?_; rintro e w3 ⟨g2, cap2, own2, hb3, rfl⟩
      have hown := (own1.keep hb3).mono hb1.size
      have hbw : Below w.heap.size w w3 := nx (nx hb1 hb2) hb3
      go_wp2_with (at_builtin; refine wpList_append_own _ rfl _ _ 46 rfl w.heap.size 9 i0 (.string ⟨#[]⟩) 1 16 Try.underlying46 hi hz0 hz1 hz2 rfl (by decide) _ _ _ rfl hown ⟨g2, 0, none⟩ B.length cap2 (B.map Value.string) rfl (by simp) (own2.news rfl) (oneS _) (by unfold maxLen; omega) (by omega) hbw.size ?_; intro v' w4 hown' hgrow hnn)
      have hbw' := below_app0 hbw hown (Nat.le_refl _) hgrow
      have hown1 := OwnS.app hown'
      obtain ⟨g, cap, hv⟩ := hown1.shape (by simp; omega)
      have HV := Lib.hid hv
      clear hown hown' hgrow hv hnn
      go_wp2_with fail
      go_ret
      exact ⟨g, cap, by rw [← HV.out]; exact hown1, hbw', by rw [← HV.out]; rfl⟩

set_option maxRecDepth 100000 in
set_option maxHeartbeats 4000000 in
theorem below_any (t : Tr) : ∀ (u : Tr) (b c : Nat) (w : World), NodeAt w t b → NodeAt w u c → t.part u = true → u.carets ≤ 60 →
    Calls Try.prog 97 #[.pointer (some ⟨b, 0, none⟩), .pointer (some ⟨c, 0, none⟩)] w (GivesTexts (subsS t u) w) := by
  obtain ⟨i0, hi, hz0, hz1, hz2⟩ := info_parts info_str
  induction t with
  | lf =>
    intro u b c w h k hp hu
    have H := Lib.hid h
    have K := Lib.hid k
    clear h k
    go_enter Try.func97, Try.ntmps97
    go_wp2_with fail
    refine (isLeaf_any .lf b _ H.out).mono ?_; rintro e w1 ⟨rfl, rfl⟩
    simp only [Tr.isLf]
    go_wp2_with fail
    refine (text_any u c _ K.out (by omega)).mono ?_; rintro e w1 ⟨rfl, d, hw1⟩
    have hb1 : Below w.heap.size w w1 := by rw [hw1]; exact drewB (Below.refl _ _) _
    clear hw1
    go_wp2_with fail
    go_ret
    exact ⟨_, 1, (OwnS.one _ _).mono hb1.size, nxAlloc hb1 _, rfl⟩
  | nd l r ihl ihr =>
    intro u b c w h k hp hu
    cases u with
    | lf => simp [Tr.part] at hp
    | nd p q =>
      simp only [Tr.part, Bool.and_eq_true] at hp
      obtain ⟨hp1, hp2⟩ := hp
      have hu' : p.carets + q.carets + 1 ≤ 60 := hu
      have ht1 := (below_carets l p hp1).1
      have ht2 := (below_carets r q hp2).1
      have ll := subsS_length l p hp1
      have lr := subsS_length r q hp2
      obtain ⟨A, hA⟩ : ∃ A, A = subsS l p := ⟨_, rfl⟩
      obtain ⟨B, hB⟩ : ∃ B, B = subsS r q := ⟨_, rfl⟩
      have hC : subsS (.nd l r) (.nd p q) = A ++ B := by rw [hA, hB]; simp [subsS, Tr.subs]
      have jl := fun b c w h k => ihl p b c w h k hp1 (by omega)
      have jr := fun b c w h k => ihr q b c w h k hp2 (by omega)
      rw [← hA] at ll jl
      rw [← hB] at lr jr
      rw [hC]
      have hAn : A.length ≤ 61 := by rw [ll]; unfold Tr.leaves; omega
      have hBn : B.length ≤ 61 := by rw [lr]; unfold Tr.leaves; omega
      have hBp : 0 < B.length := by rw [lr]; exact leaves_pos r
      have hAp : 0 < A.length := by rw [ll]; exact leaves_pos l
      have H := Lib.hid h
      obtain ⟨bl, br, h, hl, hr⟩ := h
      obtain ⟨cl, cr, k, kl, kr⟩ := k
      have h1 := two_left h
      have h2 := two_right h
      have k1 := two_left k
      have k2 := two_right k
      have hb0 := Below.refl w.heap.size w
      clear h k ihl ihr hA hB hC ll lr hp1 hp2
      go_enter Try.func97, Try.ntmps97
      go_wp2_with fail
      refine (isLeaf_any (.nd l r) b _ H.out).mono ?_; rintro e w1 ⟨rfl, rfl⟩
      simp only [Tr.isLf]
      go_wp2_with fail
      go_region_held3 (fun w' => w'.cell? ⟨b, 0, none⟩ = some (.pointer (some ⟨bl, 0, none⟩)) ∧ w'.cell? ⟨b, 1, none⟩ = some (.pointer (some ⟨br, 0, none⟩)) ∧ w'.cell? ⟨c, 0, none⟩ = some (.pointer (some ⟨cl, 0, none⟩)) ∧ w'.cell? ⟨c, 1, none⟩ = some (.pointer (some ⟨cr, 0, none⟩)))
        (first
          | exact ⟨h1, h2, k1, k2⟩
          | exact ⟨q1, q2, q3, q4⟩
          | exact ⟨s1, s2, s3, s4⟩
          | exact ⟨r1, r2, r3, r4⟩)
        (first
          | (go_at_call_of 97 (some (⟨bl, 0, none⟩ : Addr)); refine (jl bl cl _ ?_ ?_).mono ?_; exact hl.keep hb0.drew; exact kl.keep hb0.drew; rintro e w1 ⟨g1, cap1, own1, hb1, rfl⟩; have hb1' := nx hb0.drew hb1; obtain ⟨q1, q2⟩ := below_two hb1' h1 h2; obtain ⟨q3, q4⟩ := below_two hb1' k1 k2)
          | (go_at_call_of 97 (some (⟨br, 0, none⟩ : Addr)); refine (jr br cr _ ?_ ?_).mono ?_; exact hr.keep hb1'; exact kr.keep hb1'; rintro e w2 ⟨g2, cap2, own2, hb2, rfl⟩; have hb2' := nx hb1' hb2; obtain ⟨s1, s2⟩ := below_two hb2' h1 h2; obtain ⟨s3, s4⟩ := below_two hb2' k1 k2; have hown := (own1.keep hb2).mono hb0.drew.size)
          | (refine step_append_lies _ (by rfl) _ _ _ (by rfl) w.heap.size 9 i0 _ 1 16 Try.underlying46 hi hz0 hz1 hz2 rfl (by omega) (.slice (some ⟨g1, 0, none⟩) A.length cap1) A.length (A.map Value.string) (by rfl) hown ⟨g2, 0, none⟩ B.length cap2 (B.map Value.string) (by rfl) (by simp) (own2.news rfl) (oneS _) hBp (by unfold maxLen; omega) (by omega) hb2'.size w2.heap.size (by rfl) ?_; intro gg cap w3 hown1 hgrow hat hlt; have hb3 := below_app0 hb2' hown (Nat.le_refl _) hgrow; obtain ⟨r1, r2⟩ := below_two hb3 h1 h2; obtain ⟨r3, r4⟩ := below_two hb3 k1 k2))
      go_wp2_with fail
      go_ret
      exact ⟨gg, cap, by rw [List.length_append]; exact OwnS.app hown1, hb3, by rw [List.length_append]; rfl⟩

/-! Texts in place of leaves. -/
theorem CellsS.form {b1 : Nat} {w : World} {v : Value} {xs : List ByteArray} (h : CellsS b1 w v xs) :
    ∃ oa cap, v = .slice oa xs.length cap ∧ xs.length ≤ cap ∧ cap ≤ maxLen ∧ ∀ i, i < xs.length → ∃ g, oa = some ⟨g, 0, none⟩ ∧ b1 ≤ g ∧ g < w.heap.size ∧ w.cell? ⟨g, i, none⟩ = some (.string (xs.getD i ⟨#[]⟩)) := by
  rcases h with ⟨rfl, rfl⟩ | ⟨g, cap, rfl, h1, h2, h3, h4, h5, _⟩
  · exact ⟨none, 0, rfl, Nat.le_refl _, Nat.zero_le _, fun i hi => by simp at hi⟩
  · exact ⟨some ⟨g, 0, none⟩, cap, rfl, h3, h4, fun i hi => ⟨g, rfl, h1, h2, h5 i hi⟩⟩

theorem fillL_length : ∀ (l : List UInt8) (us : List ByteArray), (fillL l us).length ≤ l.length + (us.map ByteArray.size).sum := by
  intro l
  induction l with
  | nil => intro us; simp [fillL]
  | cons c r ih =>
    intro us
    rw [fillL]
    split
    · cases us with
      | nil => have := ih []; simp at *; omega
      | cons u us =>
        have := ih us
        have hu : u.data.toList.length = u.size := (Lib.size_eq u).symm
        simp at *; omega
    · have := ih us; simp at *; omega
theorem fillL_ne {l : List UInt8} {us : List ByteArray} (h : ∃ c r, l = c :: r ∧ c ≠ 46) : fillL l us ≠ [] := by
  obtain ⟨c, r, rfl, hc⟩ := h
  rw [fillL, if_neg hc]; simp
end Go.Proofs.Yteflpaebckichaa

/-! Fill2 -/
namespace Go.Proofs.Yteflpaebckichaa
open Go.RowKit

def fillB (s : ByteArray) (us : List ByteArray) : ByteArray := ⟨(fillL s.data.toList us).toArray⟩

theorem byteCells_app (x y : List UInt8) : Lib.byteCells x ++ Lib.byteCells y = Lib.byteCells (x ++ y) := by simp [Lib.byteCells]
theorem IsBld.drewN {B b : Nat} {bs : List Value} {w : World} (h : IsBld B b bs w) (n : Nat) : IsBld B b bs (w.drewN n) := h

theorem fillB_tr (t : Tr) (us : List Tr) (h : us.length = t.leaves) : fillB t.str (us.map Tr.str) = (t.fill us).str := by
  unfold fillB
  rw [Tr.str_list, fill_text t us h]
  rfl

/-- One byte of a text, and what is filled in. -/
theorem fill_dot {s : ByteArray} {us : List ByteArray} {i k : Nat} (hi : i < s.size) (hk : k < us.length) (h : byteAt s i = 46) :
    fillL (s.data.toList.drop i) (us.drop k) = (us.getD k ⟨#[]⟩).data.toList ++ fillL (s.data.toList.drop (i + 1)) (us.drop (k + 1)) := by
  obtain ⟨c, r, hd, hc, hr⟩ := drop_of_byteAt hi
  have : c = 46 := u8_eq (n := 46) (by omega) (by rw [← hc, h]; rfl)
  subst this
  rw [hd, fillL, if_pos rfl, hr, List.drop_eq_getElem_cons hk]
  simp [hk]
theorem fill_other {s : ByteArray} {us : List ByteArray} {i k : Nat} (hi : i < s.size) (h : ¬ byteAt s i = 46) :
    fillL (s.data.toList.drop i) (us.drop k) = (s.extract i (i + 1)).data.toList ++ fillL (s.data.toList.drop (i + 1)) (us.drop k) ∧ ∃ c : UInt8, (s[i]'hi) = c ∧ fillL (s.data.toList.drop i) (us.drop k) = c :: fillL (s.data.toList.drop (i + 1)) (us.drop k) := by
  obtain ⟨c, r, hd, hc, hr⟩ := drop_of_byteAt hi
  have hne : ¬ c = 46 := fun e => h (by rw [hc, e]; rfl)
  have hx : s[i]'hi = c := by
    have h1 := byteAt_eq s i (by simpa using hi)
    rw [hc] at h1
    have : (s[i]'hi).toNat = c.toNat := by
      have h2 : ((c.toNat : Nat) : Int) = ((s[i]'hi).toNat : Int) := h1
      omega
    exact UInt8.toNat_inj.1 this
  have hf : fillL (s.data.toList.drop i) (us.drop k) = c :: fillL (s.data.toList.drop (i + 1)) (us.drop k) := by
    rw [hd, fillL, if_neg hne, hr]
  refine ⟨?_, c, hx, hf⟩
  rw [hf, Lib.extract_data, hd]
  have : i + 1 - i = 1 := by omega
  rw [this]
  simp

/-- The leaves that are left. -/
theorem dots_drop {s : ByteArray} {i : Nat} (hi : i < s.size) : (s.data.toList.drop i).count 46 = (if byteAt s i = 46 then 1 else 0) + (s.data.toList.drop (i + 1)).count 46 := by
  obtain ⟨c, r, hd, hc, hr⟩ := drop_of_byteAt hi
  rw [hd, List.count_cons, hr, hc]
  by_cases h : c = 46
  · subst h; simp; omega
  · have : ¬ ((c.toNat : Int) = 46) := fun e => h (u8_eq (n := 46) (by omega) e)
    rw [if_neg this]
    simp [h]

set_option maxRecDepth 100000 in
set_option maxHeartbeats 2000000 in
theorem prFill_any (b1 : Nat) (s : ByteArray) (v : Value) (us : List ByteArray) (w : World) (hs : s.size ≤ 1000) (hv : CellsS b1 w v us) (hd : s.data.toList.count 46 ≤ us.length) (_hu : us.length ≤ 1000) (hl : (fillL s.data.toList us).length ≤ 1000000) :
    Calls Try.prog 60 #[.string s, v] w (Gives (.string (fillB s us)) w) := by
  obtain ⟨oa, cap, rfl, h1, h2, hc⟩ := hv.form
  unfold maxLen at h2
  clear hv
  obtain ⟨F, hF⟩ : ∃ F, F = fillL s.data.toList us := ⟨_, rfl⟩
  have hB : fillB s us = ⟨F.toArray⟩ := by rw [hF]; rfl
  rw [← hF] at hl
  rw [hB]
  have HF := Lib.hid hF
  clear hF hB
  go_enter Try.func60, Try.ntmps60
  go_wp2_with fail
  go_loopw [5, 6, 7] (fun o k i wr => ∃ (x : ByteArray) (a j : Nat), o = .string x ∧ k = .int .i64 a ∧ i = .int .i64 j ∧ j ≤ s.size ∧ a ≤ us.length ∧ Below w.heap.size w wr ∧ x.size ≤ 1000000 ∧ (s.data.toList.drop j).count 46 + a ≤ us.length ∧ Hid (F = x.data.toList ++ fillL (s.data.toList.drop j) (us.drop a))) (fun _ _ i _ => s.size - (intOf i).toNat)
  case atStart => exact ⟨⟨#[]⟩, 0, 0, rfl, rfl, rfl, Nat.zero_le _, Nat.zero_le _, Below.refl _ _, Nat.zero_le _, by simpa using hd, by show _ = _; rw [HF.out]; simp⟩
  case round =>
    obtain ⟨x, a, j, rfl, rfl, rfl, hj, ha, hbw, hx, hcnt, he⟩ := hrel
    by_cases hlt : j < s.size
    · have hcc := dots_drop hlt
      have hbj := byteAt_eq s j (by simpa using hlt)
      have hlt' : (j : Int) < (s.size : Int) := by omega
      by_cases h46 : byteAt s j = 46
      · rw [if_pos h46] at hcc
        have hka : a < us.length := by omega
        have hfd := fill_dot hlt hka h46
        have h46' : (((s[j]'hlt).toNat : Int) == 46) = true := by
          rw [beq_iff_eq, ← h46, hbj]; rfl
        obtain ⟨g, rfl, _, hg, c1⟩ := hc a hka
        have c1' := (hbw.cell (p := ⟨g, a, none⟩) hg).trans c1
        have he' : F = (x ++ us.getD a ⟨#[]⟩).data.toList ++ fillL (s.data.toList.drop (j + 1)) (us.drop (a + 1)) := by
          rw [he.out, hfd]; simp
        have hz : (x ++ us.getD a ⟨#[]⟩).size ≤ 1000000 := by
          rw [Lib.size_eq]
          have := congrArg List.length he'
          rw [List.length_append] at this
          omega
        rw [ByteArray.size_append] at hz
        generalize us.getD a ⟨#[]⟩ = u at *
        have HE := Lib.hid he'
        clear hfd he' he c1 hbj h46
        go_wp2_with fail
        go_roundw
        case rel => exact ⟨x ++ u, a + 1, j + 1, rfl, by go_num, by go_num, by omega, by omega, hbw, by rw [ByteArray.size_append]; exact hz, by omega, HE⟩
        case measure => simp [intOf]; omega
      · rw [if_neg h46] at hcc
        have hfd := (fill_other (us := us) (k := a) hlt h46).1
        have h46' : (((s[j]'hlt).toNat : Int) == 46) = false := by
          rw [beq_eq_false_iff_ne]; intro e; apply h46; rw [hbj]; exact e
        have he' : F = (x ++ s.extract j (j + 1)).data.toList ++ fillL (s.data.toList.drop (j + 1)) (us.drop a) := by
          rw [he.out, hfd]; simp
        have hz : (x ++ s.extract j (j + 1)).size ≤ 1000000 := by
          rw [Lib.size_eq]
          have := congrArg List.length he'
          rw [List.length_append] at this
          omega
        have hz' : x.size + (s.extract j (j + 1)).size ≤ 1000000 := by rw [ByteArray.size_append] at hz; exact hz
        have HE := Lib.hid he'
        clear hfd he' he hbj h46
        go_wp2_with fail
        go_roundw
        case rel => exact ⟨x ++ s.extract j (j + 1), a, j + 1, rfl, rfl, by go_num, by omega, by omega, hbw, hz, by omega, HE⟩
        case measure => simp [intOf]; omega
    · obtain rfl : j = s.size := by omega
      have hend : F = x.data.toList := by
        rw [he.out, List.drop_of_length_le (by rw [Lib.size_eq]; exact Nat.le_refl _)]
        simp [fillL]
      have HE := Lib.hid hend
      clear hend he
      go_wp2_with fail
      go_ret
      exact ⟨ret_str (by rw [HE.out]), hbw⟩

set_option maxRecDepth 100000 in
set_option maxHeartbeats 2000000 in
theorem withLeaves_any (b1 : Nat) (s : ByteArray) (v : Value) (us : List ByteArray) (w : World) (hs : s.size ≤ 1000) (hv : CellsS b1 w v us) (hd : s.data.toList.count 46 ≤ us.length) (_hu : us.length ≤ 1000) (hl : (fillL s.data.toList us).length ≤ 1000000) (hne : fillL s.data.toList us ≠ []) :
    Calls Try.prog 96 #[.string s, v] w (Gives (.string (fillB s us)) w) := by
  obtain ⟨oa, cap, rfl, h1, h2, hc⟩ := hv.form
  unfold maxLen at h2
  clear hv
  obtain ⟨F, hF⟩ : ∃ F, F = fillL s.data.toList us := ⟨_, rfl⟩
  have hB : fillB s us = ⟨F.toArray⟩ := by rw [hF]; rfl
  rw [← hF] at hl hne
  rw [hB]
  have HF := Lib.hid hF
  clear hF hB
  go_enter Try.func96, Try.ntmps96
  go_wp2_with fail
  go_loopw [6, 10] (fun k i wr => ∃ (x : List UInt8) (a j : Nat), k = .int .i64 a ∧ i = .int .i64 j ∧ j ≤ s.size ∧ a ≤ us.length ∧ Below w.heap.size w wr ∧ w.heap.size < wr.heap.size ∧ x.length ≤ 1000000 ∧ IsBld w.heap.size w.heap.size (Lib.byteCells x) wr ∧ (s.data.toList.drop j).count 46 + a ≤ us.length ∧ Hid (F = x ++ fillL (s.data.toList.drop j) (us.drop a))) (fun _ i _ => s.size - (intOf i).toNat)
  case atStart => exact ⟨[], 0, 0, rfl, rfl, Nat.zero_le _, Nat.zero_le _, nxAlloc (Below.refl _ _) _, by simp, Nat.zero_le _, Lib.fresh_isBuilder _ _ _, by simpa using hd, by show _ = _; rw [HF.out]; simp⟩
  case round =>
    obtain ⟨x, a, j, rfl, rfl, hj, ha, hbw, hlw, hx, hbld, hcnt, he⟩ := hrel
    by_cases hlt : j < s.size
    · have hcc := dots_drop hlt
      have hbj := byteAt_eq s j (by simpa using hlt)
      have hlt' : (j : Int) < (s.size : Int) := by omega
      by_cases h46 : byteAt s j = 46
      · rw [if_pos h46] at hcc
        have hka : a < us.length := by omega
        have hfd := fill_dot hlt hka h46
        have h46' : (((s[j]'hlt).toNat : Int) != 46) = false := by
          rw [bne_eq_false_iff_eq, ← h46, hbj]; rfl
        obtain ⟨g, rfl, _, hg, c1⟩ := hc a hka
        have c1' := (hbw.cell (p := ⟨g, a, none⟩) hg).trans c1
        have he' : F = (x ++ (us.getD a ⟨#[]⟩).data.toList) ++ fillL (s.data.toList.drop (j + 1)) (us.drop (a + 1)) := by
          rw [he.out, hfd]; simp
        have hz : (x ++ (us.getD a ⟨#[]⟩).data.toList).length ≤ 1000000 := by
          have := congrArg List.length he'
          rw [List.length_append] at this
          omega
        have hz2 : x.length + (us.getD a ⟨#[]⟩).size ≤ 1000000 := by rw [List.length_append, ← Lib.size_eq] at hz; exact hz
        generalize us.getD a ⟨#[]⟩ = u at *
        have HE := Lib.hid he'
        clear hfd he' he c1 hbj h46
        have gz : ((⟨#[46]⟩ : ByteArray)[0]'(by decide)).toNat = 46 := rfl
        go_wp2_with fail
        go_quiet (fail)
        clear gz h46'
        have hbw2 : Below w.heap.size w (wr.drewN nq) := drewB hbw nq
        have hlw2 : w.heap.size < (wr.drewN nq).heap.size := hlw
        have hbld2 := hbld.drewN nq
        have c2 : (wr.drewN nq).cell? ⟨g, a, none⟩ = some (.string u) := c1'
        generalize wr.drewN nq = w2 at *
        clear hbw hlw hbld c1'
        go_wp2_with fail
        refine (writeString_any w.heap.size w.heap.size _ u _ hbld2 (by rw [Lib.byteCells_length]; omega) (Nat.le_of_lt hlw2)).mono ?_; rintro e w3 ⟨rfl, hbld3, hb3⟩
        rw [Lib.strCells_eq, byteCells_app] at hbld3
        have hbw3 := hbw2.trans hb3
        have hlw3 : w.heap.size < w3.heap.size := Nat.lt_of_lt_of_le hlw2 hb3.size
        clear c2 hbld2 hb3 hbw2 hlw2
        go_wp2_with fail
        go_roundw
        case rel => exact ⟨x ++ u.data.toList, a + 1, j + 1, by go_num, by go_num, by omega, by omega, hbw3, hlw3, hz, hbld3, by omega, HE⟩
        case measure => simp [intOf]; omega
      · rw [if_neg h46] at hcc
        obtain ⟨c, hsc, hfd⟩ := (fill_other (us := us) (k := a) hlt h46).2
        have h46' : (((s[j]'hlt).toNat : Int) != 46) = true := by
          rw [bne_iff_ne]; intro e; apply h46; rw [hbj]; exact e
        have he' : F = (x ++ [c]) ++ fillL (s.data.toList.drop (j + 1)) (us.drop a) := by
          rw [he.out, hfd]; simp
        have hz : (x ++ [c]).length ≤ 1000000 := by
          have := congrArg List.length he'
          rw [List.length_append] at this
          omega
        have hz2 : x.length + 1 ≤ 1000000 := by rw [List.length_append] at hz; exact hz
        have HE := Lib.hid he'
        have hsc' : Hid (((s[j]'hlt).toNat : Int) = (c.toNat : Int)) := by show _ = _; rw [hsc]
        clear hfd he' he hbj h46 hsc
        have gz : ((⟨#[46]⟩ : ByteArray)[0]'(by decide)).toNat = 46 := rfl
        go_wp2_with fail
        go_quiet (fail)
        clear gz h46'
        have hbw2 : Below w.heap.size w (wr.drewN nq) := drewB hbw nq
        have hlw2 : w.heap.size < (wr.drewN nq).heap.size := hlw
        have hbld2 := hbld.drewN nq
        generalize wr.drewN nq = w2 at *
        clear hbw hlw hbld
        go_wp2_with fail
        refine (writeByte_any w.heap.size w.heap.size _ _ _ hbld2 (by rw [Lib.byteCells_length]; omega) (Nat.le_of_lt hlw2)).mono ?_; rintro e w3 ⟨rfl, hbld3, hb3⟩
        rw [hsc'.out, show Lib.byteCells x ++ [Value.int .u8 (c.toNat : Int)] = Lib.byteCells (x ++ [c]) by rw [← byteCells_app]; rfl] at hbld3
        have hbw3 := hbw2.trans hb3
        have hlw3 : w.heap.size < w3.heap.size := Nat.lt_of_lt_of_le hlw2 hb3.size
        clear hbld2 hb3 hbw2 hlw2
        go_wp2_with fail
        go_roundw
        case rel => exact ⟨x ++ [c], a, j + 1, rfl, by go_num, by omega, by omega, hbw3, hlw3, hz, hbld3, by omega, HE⟩
        case measure => simp [intOf]; omega
    · obtain rfl : j = s.size := by omega
      have hend : F = x := by
        rw [he.out, List.drop_of_length_le (by rw [Lib.size_eq]; exact Nat.le_refl _)]
        simp [fillL]
      have HE := Lib.hid hend
      clear hend he
      go_wp2_with fail
      refine (builderString_any _ _ x _ hbld (by rw [← HE.out]; exact hne)).mono ?_; rintro e w1 ⟨rfl, hb1⟩
      go_wp2_with fail
      go_ret
      exact ⟨ret_str (by rw [HE.out]), hbw.trans hb1⟩
end Go.Proofs.Yteflpaebckichaa

/-! Prefix -/
namespace Go.Proofs.Yteflpaebckichaa
open Go.RowKit

theorem take_eq_of_short {l p : List UInt8} (h : l.length < p.length) : (l.take p.length == p) = false := by
  rw [beq_eq_false_iff_ne]
  intro e
  have := congrArg List.length e
  simp at this
  omega

set_option linter.unusedVariables false in
theorem hasPrefixL_any (s p : ByteArray) (w : World) (hs : s.size ≤ 9223372036854775806) (hp : p.size ≤ 9223372036854775806) :
    Calls Try.prog 90 #[.string s, .string p] w fun e w' => e = .returned (.bool (s.data.toList.take p.size == p.data.toList)) ∧ w = w' := by
  by_cases h : (p.size : Int) ≤ s.size
  · go_enter Try.func90, Try.ntmps90
    go_wp2
    go_ret
    refine ⟨ret_bool ?_, rfl⟩
    rw [Lib.extract_toList, Lib.toList_data]; simp
  · have hf : (s.data.toList.take p.size == p.data.toList) = false := by
      rw [Lib.size_eq p]; exact take_eq_of_short (by rw [← Lib.size_eq, ← Lib.size_eq]; omega)
    rw [hf]
    clear hf
    go_enter Try.func90, Try.ntmps90
    go_wp2
    go_ret
    exact ⟨rfl, rfl⟩

theorem hasPrefixS_any (s p : ByteArray) (w : World) (hs : s.size ≤ 9223372036854775806) (hp : p.size ≤ 9223372036854775806) :
    Calls Try.prog 80 #[.string s, .string p] w fun e w' => e = .returned (.bool (s.data.toList.take p.size == p.data.toList)) ∧ w = w' := by
  go_enter Try.func80, Try.ntmps80
  go_wp2_with fail
  refine (hasPrefixL_any s p _ hs hp).mono ?_; rintro e w1 ⟨rfl, rfl⟩
  go_wp2_with fail
  go_ret
  exact ⟨rfl, rfl⟩

end Go.Proofs.Yteflpaebckichaa
