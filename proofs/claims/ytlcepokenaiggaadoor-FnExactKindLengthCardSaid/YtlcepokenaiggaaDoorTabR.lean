/- A listed table of rows of integers. -/
import Derived.Test.YtlcepokenaiggaaDoorLn7
import Derived.Lib.LaidTab
namespace Go.Proofs.YtlcepokenaiggaaDoor
open Go.RowKit

def tabRows : List (List Int) := [[0, 2, 2, 1, 1, 3], [2, 2, 2, 1, 1, 3], [2, 2, 2, 1, 3, 3], [1, 1, 1, 2, 2, 2], [1, 1, 3, 2, 2, 4], [3, 3, 3, 2, 4, 4]]
theorem rows_flat (n : Nat) : ∀ (zss : List (List Value)) (cs : List Value), cs.length = zss.length * n → (∀ i z, zss[i]? = some z → (cs.drop (i * n)).take n = z) → cs = zss.flatten := by
  intro zss
  induction zss with
  | nil => intro cs h _; exact List.length_eq_zero_iff.1 (by simpa using h)
  | cons z r ih =>
    intro cs h hz
    have h0 := hz 0 z rfl
    rw [Nat.zero_mul, List.drop_zero] at h0
    have e := ih (cs.drop n) (by rw [List.length_drop, h, List.length_cons, Nat.add_mul]; omega) (fun i y hy => by
      have := hz (i + 1) y (by simpa using hy)
      rw [List.drop_drop, show n + i * n = (i + 1) * n by rw [Nat.add_mul]; omega]
      exact this)
    rw [List.flatten_cons, ← e, ← h0, List.take_append_drop]
theorem cells_of_rows {H : Type} {enc : TypeId × Value → H} {P : Program} {w : World} {base : Nat} {sp : Nat → Bool} {held : Bool} {fuel : Nat} {t e f : TypeId} {m n : Nat} {k : IntKind} {cs : List Value} {zss : List (List Int)} {p : List MemPlace}
    (ht : P.underlying t = some (.array m e)) (he : P.underlying e = some (.array n f)) (hf : P.underlying f = some (.int k)) (hcf : P.cellsOf f = 1) (hce : P.cellsOf e = n) (hct : P.cellsOf t = m * n)
    (h : DataW.trod enc P w base sp held fuel t cs = some (.agg (zss.map fun zs => Lib.tabData k zs), p)) : cs = zss.flatten.map fun z => Value.int k z := by
  cases fuel with
  | zero => simp [DataW.trod] at h
  | succ fuel =>
    simp only [DataW.trod, ht, hce, hct] at h
    split at h
    · rename_i hl
      obtain ⟨xs, hm, hx⟩ := Option.map_eq_some_iff.1 h
      have hxs : xs.map (·.1) = zss.map fun zs => (Lib.tabData k zs : DataW H) := by
        have := congrArg Prod.fst hx
        simpa using this
      have hxl : xs.length = m := by simpa using Lib.mapM_length hm
      have hzl : zss.length = m := by
        have := congrArg List.length hxs
        simp at this
        omega
      have := rows_flat n (zss.map fun zs => zs.map fun z => Value.int k z) cs (by rw [List.length_map, hzl, hl]) (fun i z hz => by
        rw [List.getElem?_map, Option.map_eq_some_iff] at hz
        obtain ⟨zs, hzs, rfl⟩ := hz
        have hi : i < m := by rw [← hzl]; exact (List.getElem?_eq_some_iff.1 hzs).1
        obtain ⟨b, hb, hfb⟩ := Lib.mapM_at hm i i (by simp [hi])
        have h2 : (xs.map (·.1))[i]? = some b.1 := by simp [hb]
        rw [hxs, List.getElem?_map, hzs] at h2
        have h3 : b.1 = Lib.tabData k zs := (Option.some.inj h2).symm
        obtain ⟨b1, b2⟩ := b
        dsimp only at h3
        subst h3
        exact Lib.cells_of_tab he hf hcf hce hfb)
      rw [this, List.map_flatten]
    · cases h
end Go.Proofs.YtlcepokenaiggaaDoor
