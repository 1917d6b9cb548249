/- Walk: laws.markText. -/
import Derived.Test.YtkoebmdocenlkaaRowS
import Derived.Test.YtkoebmdocenlkaaQuiet
namespace Go.Proofs.Ytkoebmdocenlkaa
open Go.RowKit

/-- One byte as a text. -/
def oneB (c : Int) : ByteArray := strOfNums [c]
theorem oneB_size (c : Int) : (oneB c).size = 1 := rfl

/-- 'string([]byte{c})'. -/
theorem conv_one (w : World) (c : Int) : (convert 99 9 (.slice (some ⟨w.heap.size, 0, none⟩) 1 1)).run Try.prog (w.alloc (.cells #[.int .u8 c] 5)) = .ok (.string (oneB c)) (w.alloc (.cells #[.int .u8 c] 5)) := by
  refine run_convert_bytes_arg _ 99 5 Try.underlying99 Try.underlying5 w.heap.size 0 1 1 [c] rfl ?_ 9 Try.underlying9
  intro i hi
  obtain rfl : i = 0 := by omega
  have : (w.alloc (.cells #[.int .u8 c] 5)).heap[w.heap.size]? = some (.cells #[.int .u8 c] 5) := by
    show (w.heap.push _)[w.heap.size]? = _
    simp
  exact cell_of_one this

/-- The digits of a number ahead of a text. -/
def digs (j : Nat) (acc : ByteArray) : ByteArray := if 0 < j then digs (j / 10) (oneB (48 + (j : Int) % 10) ++ acc) else acc
termination_by j
decreasing_by omega

def markT (k : Nat) : ByteArray := ⟨#[109]⟩ ++ digs k ⟨#[]⟩

set_option maxRecDepth 100000 in
set_option maxHeartbeats 1000000 in
theorem markText_any (k : Nat) (w : World) (hk : 0 < k) (hk2 : k ≤ 2000000000) :
    Calls Try.prog 56 #[.int .i64 k] w (Gives (.string (markT k)) w) := by
  have hconv := conv_one
  go_enter Try.func56, Try.ntmps56
  go_wp2_with fail
  go_loopw [0, 3] (fun i t wr => ∃ (j : Nat) (acc : ByteArray), i = .int .i64 j ∧ t = .string acc ∧ acc.size + j ≤ k ∧ Below w.heap.size w wr ∧ Hid (digs k ⟨#[]⟩ = digs j acc)) (fun i _ _ => (intOf i).toNat)
  case atStart => exact ⟨k, ⟨#[]⟩, rfl, rfl, by simp [ByteArray.size], Below.refl _ _, rfl⟩
  case round =>
    obtain ⟨j, acc, rfl, rfl, hz, hbw, he⟩ := hrel
    by_cases hlt : (0 : Int) < j
    · have he' := he.out
      rw [digs.eq_def j, if_pos (by omega)] at he'
      have HE := Lib.hid he'
      have hob := oneB_size (48 + (j : Int) % 10)
      clear he he'
      go_wp2_with fail
      go_roundw
      case rel => exact ⟨j / 10, _, by go_num, rfl, by rw [ByteArray.size_append, hob]; omega, nxAlloc hbw _, HE⟩
      case measure => simp [intOf]; omega
    · obtain rfl : j = 0 := by omega
      have he' := he.out
      rw [digs.eq_def 0, if_neg (by omega)] at he'
      have HE := Lib.hid he'
      clear he he'
      go_wp2_with fail
      go_ret
      exact ⟨ret_str (by unfold markT; rw [HE.out]), hbw⟩
end Go.Proofs.Ytkoebmdocenlkaa
