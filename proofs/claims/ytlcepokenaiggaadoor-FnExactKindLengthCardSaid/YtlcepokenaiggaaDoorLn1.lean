/- Walks: spec.lnRow, slices.Index of texts, impl.kindPlace. -/
import Derived.Test.YtlcepokenaiggaaDoorLnP
import Derived.Test.YtlcepokenaiggaaDoorRow
import Derived.Test.YtlcepokenaiggaaDoorRowS
import Derived.Test.YtlcepokenaiggaaDoorNode
namespace Go.Proofs.YtlcepokenaiggaaDoor
open Go.RowKit

def kL : List ByteArray := [sR0, sRN, sRI, sLL, sI0, sIR]
theorem kL_row (s : ByteArray) (j : Nat) (h : j < 6) : (rowK s < 0 → (kL.getD j ⟨#[]⟩).toList ≠ s.toList) ∧ (0 ≤ rowK s → (j < (rowK s).toNat → (kL.getD j ⟨#[]⟩).toList ≠ s.toList) ∧ (j = (rowK s).toNat → kL.getD j ⟨#[]⟩ = s)) := by
  obtain ⟨h1, h2⟩ := rowK_at s
  have ext : ∀ {a b : ByteArray}, a.toList = b.toList → a = b := by
    intro a b h
    apply ba_ext
    rw [← Lib.toList_data, ← Lib.toList_data, h]
  refine ⟨fun hn e => ?_, fun hp => ⟨fun hj e => (h2 hp).2 j hj (ext e), fun hj => by subst hj; exact (h2 hp).1⟩⟩
  exact h1 hn (kL.getD j ⟨#[]⟩) (by rw [List.getD_eq_getElem?_getD, List.getElem?_eq_getElem (show j < kL.length from h)]; exact List.getElem_mem _) (ext e)
theorem kL_cells (w : World) (t : TypeId) (j : Nat) (h : j < 6) : (w.alloc (.cells #[.string sR0, .string sRN, .string sRI, .string sLL, .string sI0, .string sIR] t (0, 0))).cell? ⟨w.heap.size, j, none⟩ = some (.string (kL.getD j ⟨#[]⟩)) := by
  show ((match (w.alloc (.cells #[.string sR0, .string sRN, .string sRI, .string sLL, .string sI0, .string sIR] t (0, 0))).heap[w.heap.size]? with
    | some (.cells c _ _) => c[j]?
    | _ => none) : Option Value) = _
  rw [heap_alloc_at]
  match j, h with
  | 0, _ => rfl
  | 1, _ => rfl
  | 2, _ => rfl
  | 3, _ => rfl
  | 4, _ => rfl
  | 5, _ => rfl

set_option maxRecDepth 100000 in
set_option maxHeartbeats 2000000 in
theorem lnRow_any (s : ByteArray) (w : World) : Calls Tryd.prog 26 #[.string s] w (Gives (.int .i64 (rowK s)) w) := by
  have hr := rowK_range s
  have hk := kL_row s
  have hc := kL_cells w 9
  have hb0 : Below w.heap.size w (w.alloc (.cells #[.string sR0, .string sRN, .string sRI, .string sLL, .string sI0, .string sIR] 9 (0, 0))) := nxAlloc (Below.refl _ _) _
  unfold sR0 sRN sRI sLL sI0 sIR at hc hb0
  have HK := Lib.hid hk
  have HC := Lib.hid hc
  clear hk hc
  go_enter Tryd.func26, Tryd.ntmps26
  go_wp2_with fail
  have HC' := HC
  generalize (w.alloc _) = w0 at *
  go_loopw [7] (fun i wr => ∃ j : Nat, j ≤ 6 ∧ i = .int .i64 j ∧ (rowK s < 0 ∨ j ≤ (rowK s).toNat) ∧ wr = w0) (fun i _ => 6 - (intOf i).toNat)
  case atStart => exact ⟨0, by omega, rfl, by omega, rfl⟩
  case round =>
    obtain ⟨j, hj, rfl, hjr, rfl⟩ := hrel
    by_cases hlt : j < 6
    · have hlt' : (j : Int) < 6 := by omega
      have c1 := HC.out j hlt
      obtain ⟨k1, k2⟩ := HK.out j hlt
      generalize kL.getD j ⟨#[]⟩ = x at *
      by_cases he : 0 ≤ rowK s ∧ j = (rowK s).toNat
      · obtain rfl := (k2 he.1).2 he.2
        clear k1 k2
        have E : Hid (((j : Nat) : Int) = rowK x) := by show ((j : Nat) : Int) = rowK x; omega
        clear he hjr hr
        go_wp2_with fail
        go_ret
        exact ⟨by rw [E.out]; rfl, hb0⟩
      · have hne : (x.toList == s.toList) = false := by
          rw [beq_eq_false_iff_ne]
          by_cases hn : rowK s < 0
          · exact k1 hn
          · exact (k2 (by omega)).1 (by omega)
        clear k1 k2
        go_wp2_with fail
        go_roundw
        case rel => exact ⟨j + 1, by omega, by go_num, by omega, trivial⟩
        case measure => simp [intOf]; omega
    · obtain rfl : j = 6 := by omega
      have E : Hid (rowK s = -1) := by show rowK s = -1; omega
      clear hr hjr
      go_wp2_with fail
      go_ret
      exact ⟨by rw [E.out]; rfl, hb0⟩

set_option maxRecDepth 100000 in
set_option maxHeartbeats 2000000 in
theorem indexK_any (s : ByteArray) (g : Nat) (w : World) (hc : ∀ j, j < 6 → w.cell? ⟨g, j, none⟩ = some (.string (kL.getD j ⟨#[]⟩))) :
    Calls Tryd.prog 27 #[.slice (some ⟨g, 0, none⟩) 6 6, .string s] w (Gives (.int .i64 (rowK s)) w) := by
  have hr := rowK_range s
  have hk := kL_row s
  have HK := Lib.hid hk
  have HC := Lib.hid hc
  clear hk hc
  go_enter Tryd.func27, Tryd.ntmps27
  go_wp2_with fail
  go_loopw [8] (fun i wr => ∃ j : Nat, j ≤ 6 ∧ i = .int .i64 j ∧ (rowK s < 0 ∨ j ≤ (rowK s).toNat) ∧ wr = w) (fun i _ => 6 - (intOf i).toNat)
  case atStart => exact ⟨0, by omega, rfl, by omega, rfl⟩
  case round =>
    obtain ⟨j, hj, rfl, hjr, rfl⟩ := hrel
    by_cases hlt : j < 6
    · have hlt' : (j : Int) < 6 := by omega
      have c1 := HC.out j hlt
      obtain ⟨k1, k2⟩ := HK.out j hlt
      generalize kL.getD j ⟨#[]⟩ = x at *
      by_cases he : 0 ≤ rowK s ∧ j = (rowK s).toNat
      · obtain rfl := (k2 he.1).2 he.2
        clear k1 k2
        have E : Hid (((j : Nat) : Int) = rowK x) := by show ((j : Nat) : Int) = rowK x; omega
        clear he hjr hr
        go_wp2_with fail
        go_ret
        exact ⟨by rw [E.out]; rfl, Below.refl _ _⟩
      · have hne : (s.toList == x.toList) = false := by
          rw [beq_eq_false_iff_ne]
          intro e
          by_cases hn : rowK s < 0
          · exact k1 hn e.symm
          · exact (k2 (by omega)).1 (by omega) e.symm
        clear k1 k2
        go_wp2_with fail
        go_roundw
        case rel => exact ⟨j + 1, by omega, by go_num, by omega, trivial⟩
        case measure => simp [intOf]; omega
    · obtain rfl : j = 6 := by omega
      have E : Hid (rowK s = -1) := by show rowK s = -1; omega
      clear hr hjr
      go_wp2_with fail
      go_ret
      exact ⟨by rw [E.out]; rfl, Below.refl _ _⟩

set_option maxRecDepth 100000 in
set_option maxHeartbeats 2000000 in
theorem kindPlace_any (s : ByteArray) (w : World) : Calls Tryd.prog 15 #[.string s] w (Gives (.int .i64 (rowK s)) w) := by
  have hc := kL_cells w 9
  have hb0 : Below w.heap.size w (w.alloc (.cells #[.string sR0, .string sRN, .string sRI, .string sLL, .string sI0, .string sIR] 9 (0, 0))) := nxAlloc (Below.refl _ _) _
  have hi := fun h => indexK_any s w.heap.size (w.alloc (.cells #[.string sR0, .string sRN, .string sRI, .string sLL, .string sI0, .string sIR] 9 (0, 0))) h
  unfold sR0 sRN sRI sLL sI0 sIR at hc hb0 hi
  have HI := Lib.hid (hi hc)
  clear hi hc
  go_enter Tryd.func15, Tryd.ntmps15
  go_wp2_with fail
  refine HI.out.mono ?_; rintro e w1 ⟨rfl, hb1⟩
  go_wp2_with fail
  go_ret
  exact ⟨rfl, nx hb0 hb1⟩
end Go.Proofs.YtlcepokenaiggaaDoor
