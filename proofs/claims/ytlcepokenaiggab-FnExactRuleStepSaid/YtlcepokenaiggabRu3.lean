/- Appends of parts of words. -/
import Derived.Test.YtlcepokenaiggabRu1
import Derived.Test.YtlcepokenaiggabRu2
import Derived.Test.YtlcepokenaiggabSrc
namespace Go.Proofs.Ytlcepokenaiggab
open Go.RowKit

theorem step_appSrc {P : Program} {w : World} {ops : Array Oper} {o : Oper} {a : Act} {K : Act → World → Prop} {Q : Exit → Act → World → Prop} {E : Prop} (hgd : o.guard = none) (s x : Operand) (t : TypeId)
    (ho : o.op = .call { callee := .builtin .append, args := #[s, x], argTypes := #[t, t] })
    (base : Nat) (e : TypeId) (i : TypeInfo) (z : Value) (bytes : Nat) (ht : P.underlying t = some (.slice e)) (hi : P.info? e = some i) (hz : i.zero = some z)
    (hsize : i.size = 1) (hby : i.bytes = bytes) (hzs : z.cells.size = 1)
    (v : Value) (n : Nat) (xs : List Value) (hs : a.eval s = v) (hown : w.ownsRow base e 1 v n xs)
    (u : Value) (ys : List Value) (hx : a.eval x = u) (hsrc : SrcV w u ys) (h1 : ∀ y ∈ ys, y.oneCell' = true)
    (h63 : n + ys.length ≤ maxLen) (hbytes : (n + ys.length) * bytes ≤ 140737488355328) (hbase : base ≤ w.heap.size)
    (h : ∀ v' w', w'.ownsRow base e 1 v' (n + ys.length) (xs ++ ys) → Below base w w' → K (a.put o.dst v') w') :
    if Region.wanted o (yielded ops a.tmps) = true then Oper.wp P o a w K Q else E := by
  rw [if_pos (by simp [Region.wanted, hgd])]
  rcases hsrc with ⟨rfl, rfl⟩ | ⟨ad, c, rfl, hc⟩
  · have hrun := run_append_owned_none (P := P) (w := w) base t o.type e i 1 ht hi v n xs hown
    unfold Oper.wp
    simp [execOp, ho, resolve, invoke, builtin, hs, hx, hrun, Result.andThen]
    exact h v w (by simpa using hown) (Below.refl _ _)
  · exact wp_append_own w s x t ho base e i z 1 bytes ht hi hz hsize hby hzs (by decide) v n xs hs hown ad ys.length c ys hx (by simp) hc h1 h63 hbytes hbase fun v' w' hown' hg _ => h v' w' hown' ((Below.refl base w).grown hg hbase (fun k hk => ownsRow_ge hown k hk))
theorem one_ints (L : List Int) : ∀ y ∈ L.map (Value.int .i64), y.oneCell' = true := by
  intro y hy
  rw [List.mem_map] at hy
  obtain ⟨k, _, rfl⟩ := hy
  rfl
theorem OwnI.src {base : Nat} {w : World} {v : Value} {L : List Int} (h : OwnI base w v L) : SrcV w v (L.map (Value.int .i64)) := by
  rcases h.cells with ⟨rfl, rfl⟩ | ⟨g, cap, rfl, _, _, _, _, hx, _⟩
  · exact .inl ⟨rfl, rfl⟩
  · refine .inr ⟨⟨g, 0, none⟩, cap, by simp, fun j x hj => ?_⟩
    have hj' : j < L.length := by have := (List.getElem?_eq_some_iff.1 hj).1; simpa using this
    rw [addr_add, hx j hj', ← hj]
    simp [hj']
/-- The part of a word in front of a place, and that behind. -/
theorem word_front {w : World} {g cap j : Nat} {L : List Int} (hj : j ≤ L.length) (hx : ∀ i, i < L.length → w.cell? ⟨g, i, none⟩ = some (.int .i64 (L.getD i 0))) : SrcV w (.slice (some ⟨g, 0, none⟩) j cap) ((L.take j).map (Value.int .i64)) := by
  refine .inr ⟨_, cap, by rw [List.length_map, List.length_take]; congr 1; omega, fun i x hi => ?_⟩
  have hi' : i < (L.take j).length := by have := (List.getElem?_eq_some_iff.1 hi).1; simpa using this
  rw [List.length_take] at hi'
  rw [addr_add, hx i (by omega), ← hi]
  simp [show i < j by omega, show i < L.length by omega]
theorem word_back {w : World} {g cap j : Nat} {L : List Int} (hj : j ≤ L.length) (hx : ∀ i, i < L.length → w.cell? ⟨g, i, none⟩ = some (.int .i64 (L.getD i 0))) : SrcV w (.slice (some ⟨g, j, none⟩) (L.length - j) cap) ((L.drop j).map (Value.int .i64)) := by
  refine .inr ⟨_, cap, by rw [List.length_map, List.length_drop], fun i x hi => ?_⟩
  have hi' : i < (L.drop j).length := by have := (List.getElem?_eq_some_iff.1 hi).1; simpa using this
  rw [List.length_drop] at hi'
  have e : (⟨g, j, none⟩ : Addr).add i = ⟨g, j + i, none⟩ := by unfold Addr.add; split <;> simp_all
  rw [e, hx (j + i) (by omega), ← hi]
  simp [show j + i < L.length by omega]
end Go.Proofs.Ytlcepokenaiggab
