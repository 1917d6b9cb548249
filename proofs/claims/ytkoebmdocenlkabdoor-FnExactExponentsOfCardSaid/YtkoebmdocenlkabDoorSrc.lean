/- Appends whose source is a slice or a part of one, nil or not. -/
import Derived.Test.YtkoebmdocenlkabDoorRowS
import Derived.Maps.AppendAt
import Derived.Laws.AppendOwnNone
namespace Go.Proofs.YtkoebmdocenlkabDoor
open Go.RowKit

theorem CellsS.form0 {b1 : Nat} {w : World} {v : Value} {xs : List ByteArray} (h : CellsS b1 w v xs) :
    ∃ oa cap, v = .slice oa xs.length cap ∧ xs.length ≤ cap ∧ cap ≤ maxLen ∧ ∀ i, i < xs.length → ∃ g, oa = some ⟨g, 0, none⟩ ∧ b1 ≤ g ∧ g < w.heap.size ∧ w.cell? ⟨g, i, none⟩ = some (.string (xs.getD i ⟨#[]⟩)) := by
  rcases h with ⟨rfl, rfl⟩ | ⟨g, cap, rfl, h1, h2, h3, h4, h5, _⟩
  · exact ⟨none, 0, rfl, Nat.le_refl _, Nat.zero_le _, fun i hi => by simp at hi⟩
  · exact ⟨some ⟨g, 0, none⟩, cap, rfl, h3, h4, fun i hi => ⟨g, rfl, h1, h2, h5 i hi⟩⟩

theorem CellsS.at1 {b1 : Nat} {w : World} {g n cap : Nat} {ss : List ByteArray} (h : CellsS b1 w (.slice (some ⟨g, 0, none⟩) n cap) ss) {i : Nat} {t : ByteArray} (hi : ss[i]? = some t) : w.cell? ⟨g, i, none⟩ = some (.string t) := by
  rcases h with ⟨h, _⟩ | ⟨g', cap', h, _, _, _, _, hc, _⟩
  · cases h
  · cases h
    have hl := (List.getElem?_eq_some_iff.1 hi).1
    rw [hc i hl]
    simp [List.getD_eq_getElem?_getD, hi]

/-- A slice value from which the cells ys can be read. -/
def SrcV (w : World) (u : Value) (ys : List Value) : Prop :=
  (u = .slice none 0 0 ∧ ys = []) ∨ ∃ ad c, u = .slice (some ad) ys.length c ∧ ∀ j x, ys[j]? = some x → w.cell? (ad.add j) = some x

theorem SrcV.keep {w w' : World} {u : Value} {ys : List Value} (h : SrcV w u ys) (hb : Below w.heap.size w w') : SrcV w' u ys := by
  rcases h with h | ⟨ad, c, h1, h2⟩
  · exact .inl h
  · refine .inr ⟨ad, c, h1, fun j x hj => ?_⟩
    have hc := h2 j x hj
    exact (hb.cell (World.block_lt_of_cell? w _ hc)).trans hc

theorem wpList_appSrc {P : Program} {w : World} {ops : Array Oper} {rest : List Oper} {o : Oper} {a : Act} {Q : Exit → Act → World → Prop} (hgd : o.guard = none) (s x : Operand) (t : TypeId)
    (ho : o.op = .call { callee := .builtin .append, args := #[s, x], argTypes := #[t, t] })
    (base : Nat) (e : TypeId) (i : TypeInfo) (z : Value) (bytes : Nat) (ht : P.underlying t = some (.slice e)) (hi : P.info? e = some i) (hz : i.zero = some z)
    (hsize : i.size = 1) (hby : i.bytes = bytes) (hzs : z.cells.size = 1)
    (v : Value) (n : Nat) (xs : List Value) (hs : a.eval s = v) (hown : w.ownsRow base e 1 v n xs)
    (u : Value) (ys : List Value) (hx : a.eval x = u) (hsrc : SrcV w u ys) (h1 : ∀ y ∈ ys, y.oneCell' = true)
    (h63 : n + ys.length ≤ maxLen) (hbytes : (n + ys.length) * bytes ≤ 140737488355328) (hbase : base ≤ w.heap.size)
    (h : ∀ v' w', w'.ownsRow base e 1 v' (n + ys.length) (xs ++ ys) → Below base w w' → (v' = .slice none 0 0 → v = .slice none 0 0) → wpList P ops Q rest (a.put o.dst v') w') : wpList P ops Q (o :: rest) a w := by
  rcases hsrc with ⟨rfl, rfl⟩ | ⟨ad, c, rfl, hc⟩
  · refine wpList_append_own_none hgd s x t ho base e i 1 ht hi v n xs hs hown hx ?_
    exact h v w (by simpa using hown) (Below.refl _ _) id
  · refine wpList_append_own w hgd s x t ho base e i z 1 bytes ht hi hz hsize hby hzs (by decide) v n xs hs hown ad ys.length c ys hx (by simp) hc h1 h63 hbytes hbase ?_
    intro v' w' hown' hg hn
    exact h v' w' hown' ((Below.refl base w).grown hg hbase (fun k hk => ownsRow_ge hown k hk)) (fun e => (hn.1 e).1)

theorem row_shape {w : World} {base : Nat} {e : TypeId} {size : Nat} {v : Value} {n : Nat} {xs : List Value} (h : w.ownsRow base e size v n xs) (hn : v ≠ .slice none 0 0) : ∃ g cap, v = .slice (some ⟨g, 0, none⟩) n cap ∧ base ≤ g := by
  rcases h.2 with ⟨hv, _⟩ | ⟨g, cap, cur, hv, hb, _⟩
  · exact absurd hv hn
  · exact ⟨g, cap, hv, hb⟩

/-- An empty slice in a block of its own. -/
theorem ownsRow_empty (w : World) (e : TypeId) : (w.alloc (.cells #[] e (0, 0))).ownsRow w.heap.size e 1 (.slice (some ⟨w.heap.size, 0, none⟩) 0 0) 0 [] :=
  World.ownsRow_made w #[] 0 (Nat.le_refl _) (Nat.zero_le _) rfl

/-- The parts of a slice of the call's own, as sources. -/
theorem src_take {base : Nat} {w : World} {e : TypeId} {g n cap : Nat} {xs : List Value} (h : w.ownsRow base e 1 (.slice (some ⟨g, 0, none⟩) n cap) n xs) (k : Nat) (hk : k ≤ n) (c : Nat) : SrcV w (.slice (some ⟨g, 0, none⟩) k c) (xs.take k) := by
  have hl := h.1
  refine .inr ⟨_, c, by rw [List.length_take]; congr 1; omega, fun j x hj => ?_⟩
  have hj' := (List.getElem?_eq_some_iff.1 hj).1
  rw [List.length_take] at hj'
  rw [List.getElem?_take_of_lt (by omega)] at hj
  rw [addr_add, World.ownsRow.cellAt h j (by omega)]
  exact hj
theorem src_drop {base : Nat} {w : World} {e : TypeId} {g n cap : Nat} {xs : List Value} (h : w.ownsRow base e 1 (.slice (some ⟨g, 0, none⟩) n cap) n xs) (k : Nat) (hk : k ≤ n) (c : Nat) : SrcV w (.slice (some ⟨g, k, none⟩) (n - k) c) (xs.drop k) := by
  have hl := h.1
  refine .inr ⟨_, c, by rw [List.length_drop]; congr 1; omega, fun j x hj => ?_⟩
  have hj' := (List.getElem?_eq_some_iff.1 hj).1
  rw [List.length_drop] at hj'
  rw [List.getElem?_drop] at hj
  have ea : (⟨g, k, none⟩ : Addr).add j = ⟨g, k + j, none⟩ := by
    unfold Addr.add
    split
    · next h0 => rw [h0]; simp
    · rfl
  rw [ea, World.ownsRow.cellAt h (k + j) (by omega)]
  exact hj
theorem src_cells {b1 : Nat} {w : World} {g n cap : Nat} {xs : List ByteArray} (h : CellsS b1 w (.slice (some ⟨g, 0, none⟩) n cap) xs) (k : Nat) (hk : k ≤ xs.length) (c : Nat) : SrcV w (.slice (some ⟨g, 0, none⟩) k c) ((xs.take k).map Value.string) := by
  rcases h with ⟨h, _⟩ | ⟨g', cap', h, _, _, _, _, hc, _⟩
  · cases h
  · cases h
    refine .inr ⟨_, c, by rw [List.length_map, List.length_take]; congr 1; omega, fun j x hj => ?_⟩
    have hj' := (List.getElem?_eq_some_iff.1 hj).1
    rw [List.length_map, List.length_take] at hj'
    rw [List.getElem?_map, List.getElem?_take_of_lt (by omega), List.getElem?_eq_getElem (by omega)] at hj
    have hx := hc j (by omega)
    rw [List.getD_eq_getElem?_getD, List.getElem?_eq_getElem (by omega)] at hx
    rw [addr_add, hx]
    exact hj
theorem src_end {w : World} (a : Option Addr) (c : Nat) (h : a = none → c = 0) : SrcV w (.slice a 0 c) [] := by
  cases a with
  | none => rw [h rfl]; exact .inl ⟨rfl, rfl⟩
  | some ad => exact .inr ⟨ad, c, rfl, fun j x hj => by simp at hj⟩
end Go.Proofs.YtkoebmdocenlkabDoor
