/- Walks: markIntS, which turns the cells of one block alone. -/
import Derived.Test.YtplmbdljhgicfaaTail
import Derived.Test.YtplmbdljhgicfaaArgI
namespace Go.Proofs.Ytplmbdljhgicfaa
open Go.RowKit

/-- A call that hands back a number, and leaves the slice in block g with other numbers; no other block turns. -/
def MarkedG (base : Nat) (g : Nat) (r : Int) (v : Value) (xs : List Int) (w : World) (e : Ending) (w' : World) : Prop := e = .returned (.int .i64 r) ∧ OwnI base w' v xs ∧ w.grownBy w' (some g)

theorem grown_refl (w : World) (r : Option Nat) : w.grownBy w r := ⟨rfl, rfl, rfl, Nat.le_refl _, fun _ _ _ => rfl⟩
theorem grown_trans {a b c : World} {r : Option Nat} (h : a.grownBy b r) (k : b.grownBy c r) : a.grownBy c r :=
  ⟨k.os.trans h.os, k.tape.trans h.tape, k.output.trans h.output, Nat.le_trans h.size k.size, fun i hi hn => (k.block i (Nat.lt_of_lt_of_le hi h.size) hn).trans (h.block i hi hn)⟩
theorem OwnI.kept {base : Nat} {w w' : World} {v : Value} {xs : List Int} {g : Nat} (h : OwnI base w v xs) (hg : w.grownBy w' (some g)) (hne : g < base) : OwnI base w' v xs := by
  refine World.ownsRow.kept h hg ?_
  rcases h.2 with ⟨hv, _⟩ | ⟨g', cap, cur, hv, hb, _⟩
  · subst hv; exact .inl rfl
  · subst hv; right; simp only [Value.ownBlock]; intro e; injection e with e; omega
theorem OwnI.lt {base : Nat} {w : World} {g n cap : Nat} {xs : List Int} (h : OwnI base w (.slice (some ⟨g, 0, none⟩) n cap) xs) : base ≤ g ∧ g < w.heap.size := World.ownsRow.lt h g rfl
theorem grown_below {w w' : World} {g B : Nat} (h : w.grownBy w' (some g)) (hB : B ≤ w.heap.size) (hg : B ≤ g) : Below B w w' := (Below.refl _ _).grown h hB (fun k hk => by injection hk with hk; omega)
theorem OwnI.up {base : Nat} {w : World} {g n cap : Nat} {xs : List Int} (h : OwnI base w (.slice (some ⟨g, 0, none⟩) n cap) xs) : OwnI g w (.slice (some ⟨g, 0, none⟩) n cap) xs := by
  refine ⟨h.1, ?_⟩
  rcases h.2 with ⟨hv, hn⟩ | ⟨g', cap', cur, hv, hb, r⟩
  · cases hv
  · cases hv
    exact .inr ⟨g, cap, cur, rfl, Nat.le_refl _, r⟩

end Go.Proofs.Ytplmbdljhgicfaa
