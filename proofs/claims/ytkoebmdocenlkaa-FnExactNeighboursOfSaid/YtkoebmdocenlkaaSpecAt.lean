/- Walks: spec.trAt, SubtreeAt of both sides, and the law's walk. -/
import Derived.Test.YtkoebmdocenlkaaAns
import Derived.Test.YtkoebmdocenlkaaAt
namespace Go.Proofs.Ytkoebmdocenlkaa
open Go.RowKit

def subO (a b : ByteArray) : Option Tr :=
  match treeOf a with
  | some t => t.sub b.data.toList
  | none => none

theorem sub_long {t : Tr} {l : List UInt8} (h : t.carets < l.length) : t.sub l = none := by
  cases k : t.sub l with
  | none => rfl
  | some u => have := sub_carets _ _ _ k; omega

end Go.Proofs.Ytkoebmdocenlkaa
