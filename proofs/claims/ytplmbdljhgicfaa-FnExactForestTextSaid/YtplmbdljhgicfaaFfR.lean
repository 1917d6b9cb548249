/- Forests as plain data: what a scan of a list of texts tells. No program is named here. -/
import Derived.Test.YtplmbdljhgicfaaFfP
namespace Go.Proofs.Ytplmbdljhgicfaa

theorem treesOf_length {L : List ByteArray} {us : List Tr} (h : treesOf L = some us) : us.length = L.length := by
  have := (treesOf_some L us h).1
  rw [this]; simp
theorem treesOf_snoc : ∀ (L : List ByteArray) (us : List Tr) (s : ByteArray) (t : Tr), treesOf L = some us → treeOf s = some t → treesOf (L ++ [s]) = some (us ++ [t]) := by
  intro L
  induction L with
  | nil => intro us s t h k; simp [treesOf] at h; subst h; simp [treesOf, k]
  | cons x L ih =>
    intro us s t h k
    rw [treesOf] at h
    cases hx : treeOf x with
    | none => rw [hx] at h; cases h
    | some y =>
      rw [hx] at h
      cases hL : treesOf L with
      | none => rw [hL] at h; cases h
      | some vs =>
        rw [hL] at h
        injection h with h
        subst h
        rw [List.cons_append, treesOf, hx, ih vs s t hL k]
        rfl
theorem treesOf_bad : ∀ (L : List ByteArray) (s : ByteArray), s ∈ L → treeOf s = none → treesOf L = none := by
  intro L
  induction L with
  | nil => intro s h; cases h
  | cons x L ih =>
    intro s h k
    rw [treesOf]
    rcases List.mem_cons.1 h with rfl | h
    · rw [k]
    · rw [ih s h k]
      cases treeOf x <;> rfl
theorem forOf_bad {L : List ByteArray} {s : ByteArray} (h : s ∈ L) (k : treeOf s = none) : forOf L = none := by
  unfold forOf; rw [treesOf_bad L s h k]; rfl
theorem forOf_long {L : List ByteArray} (h : 8 < L.length) : forOf L = none := by
  cases hf : forOf L with
  | none => rfl
  | some us => obtain ⟨h1, h2, _⟩ := forOf_some hf; rw [h1] at h; simp at h; omega
theorem getD_last {α : Type} (L : List α) (d : α) (h : L ≠ []) : L.getLast? = some (L.getD (L.length - 1) d) := by
  have hp : 0 < L.length := List.length_pos_iff.2 h
  rw [List.getLast?_eq_getElem?, List.getD_eq_getElem?_getD, List.getElem?_eq_getElem (by omega)]
  rfl
theorem lastB_get (us : List Tr) (h : us ≠ []) : lastB us = !(us.getD (us.length - 1) .lf).isLf := by
  unfold lastB; rw [getD_last us .lf h]
theorem str_dot (t : Tr) : (t.str.toList == [46]) = t.isLf := by
  have : t.str.toList = t.text := by rw [Lib.toList_data, Tr.str_list]
  rw [this]
  cases t with
  | lf => rfl
  | nd l r => simp [Tr.text, Tr.isLf]
theorem treeOf_dot : treeOf ⟨#[46]⟩ = some .lf := treeOf_str .lf (by simp [Tr.carets])
theorem map_getD (us : List Tr) (k : Nat) (h : k < us.length) : (us.map Tr.str).getD k ⟨#[]⟩ = (us.getD k .lf).str := by
  simp [List.getD_eq_getElem?_getD, h]
theorem forOf_dot {L : List ByteArray} (h : 0 < L.length) (k : ((L.getD (L.length - 1) ⟨#[]⟩).toList == [46]) = true) : forOf L = none := by
  cases hf : forOf L with
  | none => rfl
  | some us =>
    obtain ⟨h1, _, _, h4⟩ := forOf_some hf
    have hl : us.length = L.length := by rw [h1]; simp
    have hne : us ≠ [] := by intro e; rw [e] at hl; simp at hl; omega
    rw [lastB_get us hne] at h4
    rw [h1, List.length_map, map_getD us _ (by omega), str_dot] at k
    rw [k] at h4
    cases h4
theorem forOf_of {L : List ByteArray} {us : List Tr} (h : treesOf L = some us) (hl : L.length ≤ 8) (k : L.length = 0 ∨ ((L.getD (L.length - 1) ⟨#[]⟩).toList == [46]) = false) : (forOf L).isSome = decide (sumT us ≤ 8) := by
  have hlen := treesOf_length h
  obtain ⟨h1, _⟩ := treesOf_some L us h
  have hlast : lastB us = true := by
    rcases k with k | k
    · have : us = [] := List.length_eq_zero_iff.1 (by omega)
      rw [this]; rfl
    · by_cases hne : us = []
      · rw [hne]; rfl
      · have hp : 0 < us.length := List.length_pos_iff.2 hne
        rw [lastB_get us hne]
        rw [h1, List.length_map, map_getD us _ (by omega), str_dot] at k
        rw [k]; rfl
  unfold forOf
  rw [h]
  simp only [Option.bind_some]
  by_cases hs : sumT us ≤ 8
  · rw [if_pos (okF_iff.2 ⟨by omega, hs, hlast⟩)]; simp [hs]
  · rw [if_neg (fun e => hs (okF_iff.1 e).2.1)]; simp [hs]
theorem forOf_trees {L : List ByteArray} {us : List Tr} (h : treesOf L = some us) : forOf L = if okF us = true then some us else none := by unfold forOf; rw [h]; rfl
end Go.Proofs.Ytplmbdljhgicfaa
