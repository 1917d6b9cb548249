/- Walks: impl.treeOf. -/
import Derived.Test.YtkoebmdocenlkabRead
import Derived.Test.YtkoebmdocenlkabMir
namespace Go.Proofs.Ytkoebmdocenlkab
open Go.RowKit

theorem keep_cell {w w' : World} {b o : Nat} {v : Value} (hb : Below w.heap.size w w') (h : w.cell? ⟨b, o, none⟩ = some v) : w'.cell? ⟨b, o, none⟩ = some v :=
  (hb.cell (p := ⟨b, o, none⟩) (World.block_lt_of_cell? _ _ h)).trans h

theorem treeOf_any (t : Tr) (w : World) (h : t.carets ≤ 1000) : Calls Try.prog 73 #[.string t.str] w (GivesNode t w) := by
  have hz := t.str_size
  have hp := place_any (t.str.size + 1) t.str
  rw [parse_str t _ (by have := t.text_len; omega)] at hp
  have hp' : ∀ w, Calls Try.prog 102 #[.string t.str] w (PlaceOk t [] t.str w) := fun w => hp w (by omega) (by omega)
  clear hz hp
  go_enter Try.func73, Try.ntmps73
  go_wp2_with fail
  refine (hp' _).mono ?_; rintro e w1 ⟨b1, s1, hs1, hz1, hn1, hb1, rfl⟩
  clear hs1 hz1
  go_wp2_with fail
  go_ret
  exact ⟨b1, hn1, hb1, rfl⟩

end Go.Proofs.Ytkoebmdocenlkab
