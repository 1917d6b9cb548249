/- Walks: impl.treeOf. -/
import Derived.Test.YtlcepokenaiggabDoorRead
import Derived.Test.YtlcepokenaiggabDoorMir
namespace Go.Proofs.YtlcepokenaiggabDoor
open Go.RowKit

theorem keep_cell {w w' : World} {b o : Nat} {v : Value} (hb : Below w.heap.size w w') (h : w.cell? ⟨b, o, none⟩ = some v) : w'.cell? ⟨b, o, none⟩ = some v :=
  (hb.cell (p := ⟨b, o, none⟩) (World.block_lt_of_cell? _ _ h)).trans h

end Go.Proofs.YtlcepokenaiggabDoor
