/- Walk: laws.markText. -/
import Derived.Test.YtlcepokenaiggabDoorRowS
import Derived.Test.YtlcepokenaiggabDoorQuiet
namespace Go.Proofs.YtlcepokenaiggabDoor
open Go.RowKit

/-- One byte as a text. -/
def oneB (c : Int) : ByteArray := strOfNums [c]
theorem oneB_size (c : Int) : (oneB c).size = 1 := rfl

/-- 'string([]byte{c})'. -/
theorem conv_one (w : World) (c : Int) : (convert 65 9 (.slice (some ⟨w.heap.size, 0, none⟩) 1 1)).run Tryd.prog (w.alloc (.cells #[.int .u8 c] 5)) = .ok (.string (oneB c)) (w.alloc (.cells #[.int .u8 c] 5)) := by
  refine run_convert_bytes_arg _ 65 5 Tryd.underlying65 Tryd.underlying5 w.heap.size 0 1 1 [c] rfl ?_ 9 Tryd.underlying9
  intro i hi
  obtain rfl : i = 0 := by omega
  have : (w.alloc (.cells #[.int .u8 c] 5)).heap[w.heap.size]? = some (.cells #[.int .u8 c] 5) := by
    show (w.heap.push _)[w.heap.size]? = _
    simp
  exact cell_of_one this

/-- The digits of a number ahead of a text. -/
def digs (j : Nat) (acc : ByteArray) : ByteArray := if 0 < j then digs (j / 10) (oneB (48 + (j : Int) % 10) ++ acc) else acc
termination_by j
decreasing_by omega

def markT (k : Nat) : ByteArray := ⟨#[109]⟩ ++ digs k ⟨#[]⟩

end Go.Proofs.YtlcepokenaiggabDoor
