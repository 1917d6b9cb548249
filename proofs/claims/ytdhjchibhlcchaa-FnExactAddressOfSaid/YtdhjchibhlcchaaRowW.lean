/- Slices of structs of integers that a call has made. -/
import Derived.Test.YtdhjchibhlcchaaRowS
import Derived.Test.YtdhjchibhlcchaaTail
import Derived.Test.YtdhjchibhlcchaaPairK
namespace Go.Proofs.Ytdhjchibhlcchaa
open Go.RowKit

/-- v is a slice of n structs of type e, of c integers each: L, one after the other. -/
def OwnW (e : TypeId) (c base : Nat) (w : World) (v : Value) (n : Nat) (L : List Int) : Prop := w.ownsRow base e c v n (L.map (Value.int .i64))
theorem OwnW.keep {e : TypeId} {c base : Nat} {w w' : World} {v : Value} {n : Nat} {L : List Int} (h : OwnW e c base w v n L) (hb : Below w.heap.size w w') : OwnW e c base w' v n L := ownsRow_keep h hb
theorem OwnW.mono {e : TypeId} {c base base' : Nat} {w : World} {v : Value} {n : Nat} {L : List Int} (h : OwnW e c base w v n L) (hb : base' ≤ base) : OwnW e c base' w v n L := ownsRow_mono h hb
theorem OwnW.nil (e : TypeId) (c base : Nat) (w : World) : OwnW e c base w (.slice none 0 0) 0 [] := World.ownsRow_nil _ _ _ _
theorem OwnW.len {e : TypeId} {c base : Nat} {w : World} {v : Value} {n : Nat} {L : List Int} (h : OwnW e c base w v n L) : L.length = n * c := by
  have := h.1; simpa using this
/-- What can be read of such a slice. -/
def CellsW (c base : Nat) (w : World) (v : Value) (n : Nat) (L : List Int) : Prop :=
  (v = .slice none 0 0 ∧ n = 0) ∨ ∃ g cap : Nat, v = .slice (some ⟨g, 0, none⟩) n cap ∧ base ≤ g ∧ g < w.heap.size ∧ n ≤ cap ∧ cap ≤ maxLen ∧
    (∀ i, i < n * c → w.cell? ⟨g, i, none⟩ = some (.int .i64 (L.getD i 0))) ∧ ∀ i, w.frozen? ⟨g, i, none⟩ = false
theorem OwnW.cells {e : TypeId} {c base : Nat} {w : World} {v : Value} {n : Nat} {L : List Int} (h : OwnW e c base w v n L) : CellsW c base w v n L := by
  have h0 := h
  have hl := h.len
  obtain ⟨h1, h2⟩ := h
  rcases h2 with ⟨hv, hn⟩ | ⟨g, cap, cur, hv, hg, hh, r1, r2, r3⟩
  · exact .inl ⟨hv, hn⟩
  · subst hv
    refine .inr ⟨g, cap, rfl, hg, lt_of_block hh, r1, r2, fun i hi => ?_, fun i => World.ownsRow.frozenAt h0 i⟩
    have := World.ownsRow.cellAt h0 i (by omega)
    rw [this]
    have hi' : i < L.length := by omega
    simp [hi']
theorem CellsW.keep {c base : Nat} {w w' : World} {v : Value} {n : Nat} {L : List Int} (h : CellsW c base w v n L) (hb : Below w.heap.size w w') : CellsW c base w' v n L := by
  rcases h with h | ⟨g, cap, hv, h1, h2, h3, h4, h5, h6⟩
  · exact .inl h
  · refine .inr ⟨g, cap, hv, h1, Nat.lt_of_lt_of_le h2 hb.size, h3, h4, fun i hi => (hb.cell (p := ⟨g, i, none⟩) h2).trans (h5 i hi), fun i => (hb.frozen (p := ⟨g, i, none⟩) h2).trans (h6 i)⟩
/-- Pairs of numbers, one after the other. -/
def flatF : List (Nat × Nat) → List Int
  | [] => []
  | x :: l => (x.1 : Int) :: (x.2 : Int) :: flatF l
theorem flatF_length (l : List (Nat × Nat)) : (flatF l).length = l.length * 2 := by
  induction l with
  | nil => rfl
  | cons x l ih => simp [flatF, ih]; omega
theorem flatF_append (l m : List (Nat × Nat)) : flatF (l ++ m) = flatF l ++ flatF m := by
  induction l with
  | nil => rfl
  | cons x l ih => simp [flatF, ih]
theorem flatF_get (l : List (Nat × Nat)) : ∀ k, k < l.length → (flatF l).getD (k * 2) 0 = ((l.getD k (0, 0)).1 : Int) ∧ (flatF l).getD (k * 2 + 1) 0 = ((l.getD k (0, 0)).2 : Int) := by
  induction l with
  | nil => intro k hk; simp at hk
  | cons x l ih =>
    intro k hk
    match k with
    | 0 => exact ⟨rfl, rfl⟩
    | k + 1 =>
      have := ih k (by simpa using hk)
      rw [show (k + 1) * 2 = k * 2 + 2 by omega]
      exact this
/-- v is a slice of fractions that the call has made. -/
def OwnF (base : Nat) (w : World) (v : Value) (xs : List (Nat × Nat)) : Prop := OwnW 26 2 base w v xs.length (flatF xs)
theorem OwnF.keep {base : Nat} {w w' : World} {v : Value} {xs : List (Nat × Nat)} (h : OwnF base w v xs) (hb : Below w.heap.size w w') : OwnF base w' v xs := OwnW.keep h hb
theorem OwnF.mono {base base' : Nat} {w : World} {v : Value} {xs : List (Nat × Nat)} (h : OwnF base w v xs) (hb : base' ≤ base) : OwnF base' w v xs := OwnW.mono h hb
theorem OwnF.cells {base : Nat} {w : World} {v : Value} {xs : List (Nat × Nat)} (h : OwnF base w v xs) : CellsW 2 base w v xs.length (flatF xs) := OwnW.cells h
def AnsF2 (xs : List (Nat × Nat)) (ok : Bool) (w : World) (e : Ending) (w' : World) : Prop :=
  ∃ v, OwnF w.heap.size w' v xs ∧ Below w.heap.size w w' ∧ e = .returned (.tuple #[v, .bool ok])
def AnsFs (o : Option (List (Nat × Nat))) (w : World) (e : Ending) (w' : World) : Prop := AnsF2 (o.getD []) o.isSome w e w'
/-- A call that hands back a slice of fractions of its own. -/
def GivesF (xs : List (Nat × Nat)) (w : World) (e : Ending) (w' : World) : Prop :=
  ∃ v, OwnF w.heap.size w' v xs ∧ Below w.heap.size w w' ∧ e = .returned v
theorem info_frac : (Try.prog.info? 26).map (fun i => (i.zero, i.size, i.bytes)) = some (some (.agg #[.int .i64 0, .int .i64 0]), 2, 16) := by kernel_rfl
/-- What an append of one struct asks. -/
theorem newsK (w : World) (cs : Array Value) (e : TypeId) : ∀ (j : Nat) (u : Value), cs.toList[j]? = some u → (w.alloc (.cells cs e)).cell? ((⟨w.heap.size, 0, none⟩ : Addr).add j) = some u := by
  intro j u hj
  have hb : (w.alloc (.cells cs e)).heap[w.heap.size]? = some (.cells cs e (0, 0)) := by show (w.heap.push _)[w.heap.size]? = _; simp
  rw [addr_add]
  simp only [World.cell?, hb]
  simpa using hj
theorem OwnF.snoc {base : Nat} {w : World} {v : Value} {xs : List (Nat × Nat)} {a b : Nat} (h : w.ownsRow base 26 2 v (xs.length + 1) ((flatF xs).map (Value.int .i64) ++ [Value.int .i64 a, Value.int .i64 b])) : OwnF base w v (xs ++ [(a, b)]) := by
  unfold OwnF OwnW
  rw [List.length_append, flatF_append, List.map_append]
  exact h
end Go.Proofs.Ytdhjchibhlcchaa
