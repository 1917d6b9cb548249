/- Chains end at the right comb. No program is named here. -/
import Derived.Test.YtkoebmdocenlkaaBrP
namespace Go.Proofs.Ytkoebmdocenlkaa
/-- The right comb. -/
def combR8 : Nat → Tr
  | 0 => .lf
  | n + 1 => .nd .lf (combR8 n)
theorem spots_none_comb (t : Tr) : ∀ here, t.spots false here = [] → t = combR8 t.carets := by
  induction t with
  | lf => intro here _; rfl
  | nd l r _ ihr =>
    intro here h
    rw [Tr.spots, List.append_eq_nil_iff, List.append_eq_nil_iff] at h
    have hr := ihr _ h.2.2
    cases l with
    | lf =>
      simp only [Tr.carets, Nat.zero_add]
      show Tr.nd .lf r = .nd .lf (combR8 r.carets)
      rw [← hr]
    | nd a b =>
      exfalso
      have h1 := h.1
      unfold Tr.here1 at h1
      rw [if_pos (by rfl)] at h1
      simp at h1
theorem nextT_none_comb {t : Tr} (h : nextT t = none) : t = combR8 t.carets := by
  cases k : t.spots false ⟨#[]⟩ with
  | nil => exact spots_none_comb t _ k
  | cons a as1 =>
    obtain ⟨u, _, h2⟩ := nextT_cons k
    rw [h] at h2; cases h2
theorem chainF_last (k : Nat) : ∀ t : Tr, t.lw ≤ k → (chainF k t).getLast? = some (combR8 t.carets) := by
  induction k with
  | zero =>
    intro t h
    have hn : nextT t = none := by
      cases g : nextT t with
      | none => rfl
      | some u => have := nextT_lw g; omega
    show [t].getLast? = _
    rw [← nextT_none_comb hn]; rfl
  | succ k ih =>
    intro t h
    rw [chainF]
    cases g : nextT t with
    | none => show [t].getLast? = _; rw [← nextT_none_comb g]; rfl
    | some u =>
      have h1 := nextT_lw g
      have h2 := ih u (by omega)
      rw [nextT_carets g] at h2
      have h3 := (chainF_len k u).2
      simp only
      rw [List.getLast?_cons, h2]; rfl
theorem chainT_last (t : Tr) : (chainT t).getLast? = some (combR8 t.carets) := chainF_last _ t (Nat.le_refl _)
theorem dropLast_last {α : Type} {l : List α} {x : α} (h : l.getLast? = some x) : l = l.dropLast ++ [x] := by
  induction l with
  | nil => simp at h
  | cons a l ih =>
    cases l with
    | nil => simp at h; subst h; rfl
    | cons b l =>
      rw [List.getLast?_cons_cons] at h
      rw [List.dropLast_cons_cons, List.cons_append, ← ih h]
/-- From one to the other over the right comb. -/
def betweenT (a b : Tr) : List Tr := chainT a ++ (chainT b).dropLast.reverse
theorem between_eq {a b : Tr} (h : a.carets = b.carets) : (chainT a).dropLast ++ (chainT b).reverse = betweenT a b := by
  have h1 := dropLast_last (chainT_last a)
  have h2 := dropLast_last (chainT_last b)
  unfold betweenT
  rw [show (chainT b).reverse = combR8 b.carets :: (chainT b).dropLast.reverse by
    conv => lhs; rw [h2]
    simp]
  conv => rhs; rw [h1]
  rw [h]; simp
end Go.Proofs.Ytkoebmdocenlkaa
