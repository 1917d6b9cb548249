/- The program's way from exponents to a tree: left combs at its leaves, one after the other. No program is named here. -/
import Derived.Test.YtplmbdljhgicfaaWayP
import Derived.Test.YtplmbdljhgicfaaPrT
namespace Go.Proofs.Ytplmbdljhgicfaa

/-- A left comb. -/
def lcT : Nat → Tr
  | 0 => .lf
  | n + 1 => .nd (lcT n) .lf
theorem lcT_carets (n : Nat) : (lcT n).carets = n := by induction n with | zero => rfl | succ n ih => simp [lcT, Tr.carets, ih]
theorem lcT_exps (e : Nat) : ∀ x, (lcT e).expN x = (x + e) :: List.replicate e 0 := by
  induction e with
  | zero => intro x; rfl
  | succ e ih => intro x; rw [lcT, Tr.expN, ih, Tr.expN, List.replicate_succ']; simp; omega

theorem expN_graft (u c : Tr) : ∀ (w : Nat) (X Y : List Nat) (x : Nat), u.expN w = X ++ x :: Y → (u.graft (X.length : Int) c).expN w = X ++ (c.expN x ++ Y) := by
  induction u with
  | lf =>
    intro w X Y x h
    rw [Tr.expN] at h
    cases X with
    | nil => simp at h; obtain ⟨rfl, rfl⟩ := h; simp [Tr.graft]
    | cons a X => simp at h
  | nd l r ihl ihr =>
    intro w X Y x h
    have hl := expN_length l (w + 1)
    rw [Tr.expN] at h
    rw [Tr.graft]
    by_cases hc : (X.length : Int) < l.leaves
    · rw [if_pos hc]
      simp only [Tr.leaves] at hc
      have h1 : l.expN (w + 1) = X ++ x :: Y.take (l.carets - X.length) := by
        have h2 := congrArg (List.take (l.carets + 1)) h
        rw [List.take_append_of_le_length (by omega), ← hl, List.take_length, List.take_append, List.take_of_length_le (by omega)] at h2
        rw [h2]
        have : (l.expN (w + 1)).length - X.length = (l.carets - X.length) + 1 := by omega
        rw [this, List.take_succ_cons]
      have h3 : Y = Y.take (l.carets - X.length) ++ r.expN 0 := by
        rw [h1] at h
        simp only [List.append_assoc, List.cons_append] at h
        have h4 := List.append_cancel_left h
        injection h4 with _ h4
        exact h4.symm
      rw [Tr.expN, ihl _ _ _ _ h1]
      rw [List.append_assoc, List.append_assoc, ← h3]
    · rw [if_neg hc]
      simp only [Tr.leaves] at hc
      have h1 : X = l.expN (w + 1) ++ X.drop (l.carets + 1) := by
        have h2 := congrArg (List.take (l.carets + 1)) h
        rw [List.take_append_of_le_length (by omega), ← hl, List.take_length, List.take_append_of_le_length (by omega)] at h2
        rw [h2, hl, List.take_append_drop]
      have h3 : r.expN 0 = X.drop (l.carets + 1) ++ x :: Y := by
        rw [h1] at h
        rw [List.append_assoc] at h
        exact List.append_cancel_left h
      have h4 := ihr _ _ _ _ h3
      have h5 : ((X.drop (l.carets + 1)).length : Int) = (X.length : Int) - l.leaves := by
        rw [List.length_drop]; simp only [Tr.leaves]; omega
      rw [h5] at h4
      rw [Tr.expN, h4]
      rw [← List.append_assoc, ← h1]

/-- The exponents of a list of trees. -/
def expF (s : List Tr) : List Nat := s.flatMap fun t => t.expN 0
theorem expR_sides (t : Tr) : t.expR = expF (sidesT t) ++ [0] := by
  induction t with
  | lf => rfl
  | nd l r _ ihr => rw [Tr.expR, ihr, sidesT]; simp [expF]
def combS (s : List Tr) : Tr := combT s
theorem sides_comb (s : List Tr) : sidesT (combT s) = s := by
  induction s with
  | nil => rfl
  | cons t s ih => rw [combT, sidesT, ih]
theorem expF_app (s u : List Tr) : expF (s ++ u) = expF s ++ expF u := by simp [expF]
theorem expF_one (u : Tr) : expF [u] = u.expN 0 := by simp [expF]

/-- A graft behind the first sides. -/
theorem graft_comb (c : Tr) : ∀ (s : List Tr) (u : Tr) (i : Nat), (combT (s ++ [u])).graft (((expF s).length + i : Nat) : Int) c = if i ≤ u.carets then combT (s ++ [u.graft i c]) else combT (s ++ [u]) |>.graft (((expF s).length + i : Nat) : Int) c := by
  intro s
  induction s with
  | nil =>
    intro u i
    split
    · next h =>
      show (Tr.nd u .lf).graft _ c = Tr.nd (u.graft i c) .lf
      rw [Tr.graft, if_pos (by simp [expF, Tr.leaves]; omega)]
      simp [expF]
    · rfl
  | cons t s ih =>
    intro u i
    split
    · next h =>
      have h1 := ih u i
      rw [if_pos h] at h1
      have h2 : (expF (t :: s)).length = t.carets + 1 + (expF s).length := by
        show (expF ([t] ++ s)).length = _
        rw [expF_app, List.length_append, expF_one, expN_length]
      show (Tr.nd t (combT (s ++ [u]))).graft _ c = Tr.nd t (combT (s ++ [u.graft i c]))
      rw [Tr.graft, if_neg (by rw [h2]; simp only [Tr.leaves]; omega), ← h1]
      congr 2
      rw [h2]; simp only [Tr.leaves]; omega
    · rfl
theorem graft_last (c : Tr) : ∀ s : List Tr, (combT s).graft ((expF s).length : Int) (.nd c .lf) = combT (s ++ [c]) := by
  intro s
  induction s with
  | nil => rfl
  | cons t s ih =>
    have h2 : (expF (t :: s)).length = t.carets + 1 + (expF s).length := by
      show (expF ([t] ++ s)).length = _
      rw [expF_app, List.length_append, expF_one, expN_length]
    show (Tr.nd t (combT s)).graft _ _ = Tr.nd t (combT (s ++ [c]))
    rw [Tr.graft, if_neg (by rw [h2]; simp only [Tr.leaves]; omega), ← ih]
    congr 2
    rw [h2]; simp only [Tr.leaves]; omega

/-- One exponent more. -/
def stepE (t : Tr) (k e : Nat) : Tr := if k = t.carets then t.graft k (.nd (lcT e) .lf) else t.graft k (lcT e)
def foldE : Tr → Nat → List Nat → Tr
  | t, _, [] => t
  | t, k, e :: L => foldE (stepE t k e) (k + 1) L

theorem comb_carets (s : List Tr) : (combT s).carets = (expF s).length := by
  induction s with
  | nil => rfl
  | cons t s ih =>
    show t.carets + (combT s).carets + 1 = (expF ([t] ++ s)).length
    rw [expF_app, List.length_append, expF_one, expN_length, ih]; omega

theorem stepE_carets (t : Tr) (k e : Nat) (h : k ≤ t.carets) : t.carets + e ≤ (stepE t k e).carets ∧ (k = t.carets → (stepE t k e).carets = t.carets + e + 1) ∧ k + 1 ≤ (stepE t k e).carets := by
  unfold stepE
  split
  · next hk =>
    rw [graft_carets t _ k (by omega) (by simp [Tr.leaves]; omega)]
    simp [Tr.carets, lcT_carets]; omega
  · next hk =>
    rw [graft_carets t _ k (by omega) (by simp [Tr.leaves]; omega)]
    simp [lcT_carets]; omega

/-- What holds of the tree made of the exponents A. -/
def InvE (A : List Nat) (t : Tr) : Prop :=
  (A = [] ∧ t = .lf) ∨ ∃ s u j, t = combT (s ++ [u]) ∧ (expF s).length < A.length ∧ expF (s ++ [u]) = A ++ List.replicate j 0

theorem invE_carets {A : List Nat} {t : Tr} (h : InvE A t) : A.length ≤ t.carets := by
  rcases h with ⟨rfl, rfl⟩ | ⟨s, u, j, rfl, _, h2⟩
  · exact Nat.le_refl _
  · rw [comb_carets, h2]; simp

theorem invE_step {A : List Nat} {t : Tr} (h : InvE A t) (e : Nat) : InvE (A ++ [e]) (stepE t A.length e) := by
  rcases h with ⟨rfl, rfl⟩ | ⟨s, u, j, rfl, h1, h2⟩
  · refine .inr ⟨[], lcT e, e, rfl, by simp [expF], ?_⟩
    rw [List.nil_append, expF_one, lcT_exps]; simp
  · have hc : (combT (s ++ [u])).carets = A.length + j := by rw [comb_carets, h2]; simp
    unfold stepE
    by_cases hj : j = 0
    · subst hj
      rw [if_pos (by omega)]
      have hl : (expF (s ++ [u])).length = A.length := by rw [h2]; simp
      have := graft_last (lcT e) (s ++ [u])
      rw [hl] at this
      rw [this]
      refine .inr ⟨s ++ [u], lcT e, e, rfl, by rw [hl]; simp, ?_⟩
      rw [expF_app, h2, expF_one, lcT_exps]; simp
    · rw [if_neg (by omega)]
      obtain ⟨i, hi⟩ : ∃ i, A.length = (expF s).length + i := ⟨A.length - (expF s).length, by omega⟩
      have hu : u.carets + 1 + (expF s).length = A.length + j := by
        have := congrArg List.length h2
        rw [expF_app, expF_one] at this
        simp [expN_length] at this; omega
      have hg := graft_comb (lcT e) s u i
      rw [if_pos (by omega), ← hi] at hg
      rw [hg]
      have hx : u.expN 0 = A.drop (expF s).length ++ 0 :: List.replicate (j - 1) 0 := by
        have h3 := congrArg (List.drop (expF s).length) h2
        rw [expF_app, expF_one, List.drop_left, List.drop_append_of_le_length (by omega)] at h3
        rw [h3, ← List.replicate_succ]
        congr 2; omega
      have hs : expF s = A.take (expF s).length := by
        have h3 := congrArg (List.take (expF s).length) h2
        rw [expF_app, List.take_left, List.take_append_of_le_length (by omega)] at h3
        exact h3
      have hgr := expN_graft u (lcT e) 0 _ _ _ hx
      have hlen : ((A.drop (expF s).length).length : Int) = (i : Int) := by rw [List.length_drop]; omega
      rw [hlen, lcT_exps] at hgr
      refine .inr ⟨s, u.graft i (lcT e), e + (j - 1), rfl, by simp; omega, ?_⟩
      rw [expF_app, expF_one, hgr, hs]
      simp only [List.length_take]
      rw [Nat.min_eq_left (by omega), ← List.append_assoc, List.take_append_drop]
      simp [List.replicate_append_replicate]

theorem invE_all : ∀ (L A : List Nat) (t : Tr), InvE A t → InvE (A ++ L) (foldE t A.length L) := by
  intro L
  induction L with
  | nil => intro A t h; simpa [foldE] using h
  | cons e L ih =>
    intro A t h
    have h1 := ih (A ++ [e]) _ (invE_step h e)
    rw [List.length_append, List.append_assoc] at h1
    exact h1

theorem invE_end {A : List Nat} {t : Tr} (h : InvE A t) (ha : ∀ B, A ≠ B ++ [0]) : treeE A = t := by
  rcases h with ⟨rfl, rfl⟩ | ⟨s, u, j, rfl, h1, h2⟩
  · exact treeE_of [] .lf 1 rfl (.inl rfl)
  · refine treeE_of A _ (j + 1) ?_ (.inr ⟨s, u, sides_comb _, ?_⟩)
    · rw [expR_sides, sides_comb, h2, List.replicate_succ']; simp
    · cases u with
      | nd l r => rfl
      | lf =>
        exfalso
        rw [expF_app] at h2
        have hl := congrArg List.length h2
        simp [expF_one, Tr.expN] at hl
        have hj : j = 0 := by omega
        subst hj
        exact ha (expF s) (by rw [expF_one, Tr.expN] at h2; simpa using h2.symm)
theorem foldE_tree (L : List Nat) (ha : ∀ B, L ≠ B ++ [0]) : foldE .lf 0 L = treeE L := by
  have h := invE_all L [] .lf (.inl ⟨rfl, rfl⟩)
  exact (invE_end h ha).symm

end Go.Proofs.Ytplmbdljhgicfaa
