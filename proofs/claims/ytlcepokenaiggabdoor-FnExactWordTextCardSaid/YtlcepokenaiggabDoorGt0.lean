/- Walks: strconv.Itoa. -/
import Derived.Test.YtlcepokenaiggabDoorGt1
import Derived.Test.YtlcepokenaiggabDoorRegT
import Derived.Test.YtlcepokenaiggabDoorShelfItoa
import Derived.Lib.AppendIntMem
import Derived.Shelf.SlSorted.Search
namespace Go.Proofs.YtlcepokenaiggabDoor
open Go.RowKit

/-- The table of powers of ten, which reads so in whatever world is left. -/
def Tab (w : World) : Prop := Lib.TabBelow Tryd.prog w.heap.size w "internal/strconv.uint64pow10" .u64 Lib.pow10Tab
theorem Tab.keep {w w' : World} (h : Tab w) (hb : Below w.heap.size w w') : Tab w' := fun w'' h2 => h w'' (nx hb h2)
theorem Tab.keepC {w w' : World} (h : Tab w) (hb : Cls w w') : Tab w' := h.keep hb
theorem Tab.of {w : World} (h : Lib.TabIs Tryd.prog w "internal/strconv.uint64pow10" .u64 Lib.pow10Tab) : Tab w := Lib.tabBelow_of_tabIs h
theorem itoa_any (n : Nat) (w : World) (hT : Tab w) (h : n ≤ 9999) : Calls Tryd.prog 48 #[.int .i64 n] w (Gives (.string (numT n)) w) := by
  refine (Tryd.strconv_Itoa (n : Int) (by omega) (by omega) w hT.here).mono ?_
  rintro e w' ⟨rfl, k, os, rfl⟩
  refine ⟨?_, below_grown_sl w.heap.size w k os (Nat.le_refl _)⟩
  have : Lib.itoa (n : Int) = Lib.decDigits n := by
    unfold Lib.itoa
    rw [if_neg (by omega), Int.toNat_natCast]
  rw [this]
  rfl

end Go.Proofs.YtlcepokenaiggabDoor
