/- Forests as plain data: the pair of a forest is reduced; stacked forests; quotients. No program is named here. -/
import Derived.Test.YtplmbdljhgicfaaFfP
namespace Go.Proofs.Ytplmbdljhgicfaa

/-- The right comb. -/
def combR : Nat → Tr
  | 0 => .lf
  | n + 1 => .nd .lf (combR n)
theorem combR_carets (n : Nat) : (combR n).carets = n := by induction n with | zero => rfl | succ n ih => simp [combR, Tr.carets, ih]
theorem combR_exps (n : Nat) : ∀ m x : Int, x ∈ (combR n).exps m → x + 2 = m + (combR n).leaves := by
  induction n with
  | zero => intro m x h; simp [combR, Tr.exps] at h
  | succ n ih =>
    intro m x h
    rw [combR, Tr.exps] at h
    rw [combR, leaves_nd]
    simp only [List.mem_append] at h
    have hl : (Tr.lf).leaves = 1 := rfl
    rcases h with h | h | h
    · cases n with
      | zero => simp [combR, Tr.isLf] at h; subst h; simp [combR, Tr.leaves, Tr.carets]
      | succ n => simp [combR, Tr.isLf] at h
    · simp [Tr.exps] at h
    · have := ih _ _ h
      rw [hl] at this ⊢
      push_cast at this ⊢
      omega
theorem combT_exps (us : List Tr) : lastB us = true → ∀ m x : Int, x ∈ (combT us).exps m → x + 2 < m + (combT us).leaves := by
  induction us with
  | nil => intro _ m x h; simp [combT, Tr.exps] at h
  | cons u us ih =>
    intro h m x hx
    rw [combT, Tr.exps] at hx
    rw [combT, leaves_nd]
    simp only [List.mem_append] at hx
    by_cases hu : us = []
    · subst hu
      rw [lastB_one] at h
      have hlf : u.isLf = false := by simpa using h
      have hl : (combT []).leaves = 1 := rfl
      rcases hx with hx | hx | hx
      · simp [hlf] at hx
      · have := exps_range u _ _ hx; rw [hl]; omega
      · simp [combT, Tr.exps] at hx
    · rw [lastB_cons u hu] at h
      have h2 : 2 ≤ (combT us).leaves := by
        cases us with
        | nil => exact absurd rfl hu
        | cons v vs => rw [combT, leaves_nd]; have := leaves_pos v; have := leaves_pos (combT vs); omega
      have hnl : (combT us).isLf = false := by
        cases us with
        | nil => exact absurd rfl hu
        | cons v vs => rfl
      rcases hx with hx | hx | hx
      · simp [hnl] at hx
      · have := exps_range u _ _ hx; omega
      · have := ih h _ _ hx
        push_cast
        omega
/-- The pair of a forest. -/
def pairF (us : List Tr) : Pr := (combT us, combR (combT us).carets)
theorem pairF_ok (us : List Tr) : okP (pairF us) := by unfold okP pairF; rw [combR_carets]
theorem pairF_both (us : List Tr) (h : lastB us = true) : both (pairF us) = [] := by
  rw [List.eq_nil_iff_forall_not_mem]
  intro x hx
  obtain ⟨h1, h2⟩ := mem_both.1 hx
  have h3 := combT_exps us h _ _ h1
  have h4 := combR_exps _ _ _ h2
  unfold pairF at h2 h3
  have h5 : (combR (combT us).carets).leaves = (combT us).leaves := by unfold Tr.leaves; rw [combR_carets]
  omega
theorem pairF_red (us : List Tr) (h : lastB us = true) : red (pairF us) = pairF us := (red_self _).2 (pairF_both us h)
theorem combT_carets (us : List Tr) : (combT us).carets = sumT us + us.length := by
  induction us with
  | nil => rfl
  | cons u us ih => rw [combT, Tr.carets, ih, sumT_cons, List.length_cons]; omega

/-- The leaves of a forest's trees. -/
def leavesL (us : List Tr) : Nat := sumT us + us.length
theorem fillR_rest (t : Tr) : ∀ us : List Tr, (t.fillR us).2 = us.drop t.leaves := by
  induction t with
  | lf => intro us; cases us <;> rfl
  | nd l r ihl ihr => intro us; rw [Tr.fillR, leaves_nd]; show (r.fillR (l.fillR us).2).2 = _; rw [ihr, ihl, List.drop_drop]
theorem fillR_app (t : Tr) : ∀ (A B : List Tr), t.leaves ≤ A.length → (t.fillR (A ++ B)).1 = (t.fillR A).1 := by
  induction t with
  | lf => intro A B h; cases A with | nil => simp [Tr.leaves] at h | cons a A => rfl
  | nd l r ihl ihr =>
    intro A B h
    rw [leaves_nd] at h
    rw [Tr.fillR, Tr.fillR]
    show Tr.nd _ _ = Tr.nd _ _
    rw [ihl A B (by omega), fillR_rest, fillR_rest, List.drop_append_of_le_length (by omega), ihr _ B (by rw [List.length_drop]; omega)]
theorem fillR_lfs (t : Tr) : ∀ m : Nat, (t.fillR (List.replicate m .lf)).1 = t := by
  induction t with
  | lf => intro m; cases m <;> rfl
  | nd l r ihl ihr =>
    intro m
    rw [Tr.fillR]
    show Tr.nd _ _ = _
    rw [ihl, fillR_rest, List.drop_replicate, ihr]
theorem fillR_pad (t : Tr) : ∀ (us : List Tr) (m : Nat), (t.fillR (us ++ List.replicate m .lf)).1 = (t.fillR us).1 := by
  induction t with
  | lf => intro us m; cases us with | nil => cases m <;> rfl | cons u us => rfl
  | nd l r ihl ihr =>
    intro us m
    rw [Tr.fillR, Tr.fillR]
    show Tr.nd _ _ = Tr.nd _ _
    rw [ihl, fillR_rest, fillR_rest, List.drop_append, List.drop_replicate, ihr]
/-- The trees of a list with others in place of their leaves, in order. -/
def fillLs : List Tr → List Tr → List Tr
  | [], _ => []
  | u :: us, vs => (u.fillR vs).1 :: fillLs us (vs.drop u.leaves)
theorem fillLs_length (us : List Tr) : ∀ vs : List Tr, (fillLs us vs).length = us.length := by
  induction us with
  | nil => intro vs; rfl
  | cons u us ih => intro vs; simp [fillLs, ih]
theorem leavesL_cons (u : Tr) (us : List Tr) : leavesL (u :: us) = u.leaves + leavesL us := by
  unfold leavesL Tr.leaves; rw [sumT_cons, List.length_cons]; omega
theorem fillLs_app (us : List Tr) : ∀ (A B : List Tr), leavesL us ≤ A.length → fillLs us (A ++ B) = fillLs us A := by
  induction us with
  | nil => intro A B _; rfl
  | cons u us ih =>
    intro A B h
    rw [leavesL_cons] at h
    rw [fillLs, fillLs, fillR_app u A B (by omega), List.drop_append_of_le_length (by omega), ih _ B (by rw [List.length_drop]; omega)]
theorem fillLs_pad (us : List Tr) : ∀ (vs : List Tr) (m : Nat), fillLs us (vs ++ List.replicate m .lf) = fillLs us vs := by
  induction us with
  | nil => intro vs m; rfl
  | cons u us ih => intro vs m; rw [fillLs, fillLs, fillR_pad, List.drop_append, List.drop_replicate, ih]
theorem fillLs_take (us vs : List Tr) : fillLs us (vs.take (leavesL us)) = fillLs us vs := by
  by_cases h : leavesL us ≤ vs.length
  · have h1 := fillLs_app us (vs.take (leavesL us)) (vs.drop (leavesL us)) (by rw [List.length_take]; omega)
    rw [List.take_append_drop] at h1
    exact h1.symm
  · rw [List.take_of_length_le (by omega)]
/-- f with g stacked. -/
def stackF (us vs : List Tr) : List Tr := stripT (fillLs us vs ++ vs.drop (leavesL us))
/-- The tree with trees at the left sides of its right side, and another one at the end. -/
def combE (us : List Tr) (e : Tr) : Tr := us.foldr Tr.nd e
theorem combE_lf (us : List Tr) : combE us .lf = combT us := by
  induction us with
  | nil => rfl
  | cons u us ih => show Tr.nd u (combE us .lf) = _; rw [ih]; rfl
theorem sides_combE (us : List Tr) (e : Tr) : sidesT (combE us e) = us ++ sidesT e := by
  induction us with
  | nil => rfl
  | cons u us ih => show u :: sidesT (combE us e) = _; rw [ih]; rfl
theorem fillR_comb (us : List Tr) : ∀ vs : List Tr, ((combT us).fillR vs).1 = combE (fillLs us vs) ((vs.drop (leavesL us)).headD .lf) := by
  induction us with
  | nil => intro vs; cases vs <;> rfl
  | cons u us ih =>
    intro vs
    rw [combT, Tr.fillR, leavesL_cons]
    show Tr.nd _ _ = Tr.nd (u.fillR vs).1 _
    rw [ih, fillR_rest, List.drop_drop]
    rfl
/-- What hangs in the tree of f with the trees of g in place of its leaves. -/
theorem stack_hang (us vs : List Tr) (c : Nat) (hc : c = min (leavesL us) vs.length) :
    hangT ((combT us).fill (vs.take c ++ (List.replicate (leavesL us - c) .lf ++ [combT (vs.drop c)]))) = stackF us vs := by
  have hlen : (vs.take c ++ List.replicate (leavesL us - c) Tr.lf).length = leavesL us := by simp; omega
  unfold hangT stackF Tr.fill
  rw [← List.append_assoc, fillR_comb, fillLs_app us _ _ (by omega), fillLs_pad, List.drop_append_of_le_length (by omega), List.drop_of_length_le (by omega)]
  show stripT (sidesT (combE _ (combT (vs.drop c)))) = _
  rw [sides_combE, sides_comb]
  by_cases h : leavesL us ≤ vs.length
  · obtain rfl : c = leavesL us := by omega
    rw [fillLs_take]
  · obtain rfl : c = vs.length := by omega
    rw [List.take_of_length_le (by omega), List.drop_of_length_le (by omega), List.drop_of_length_le (by omega)]

/-- What the trees of h have at the leaves of those of f. -/
def quoF : List Tr → List Tr → List Tr
  | [], vs => vs
  | u :: us, [] => u.subs .lf ++ quoF us []
  | u :: us, v :: vs => u.subs v ++ quoF us vs
theorem subs_comb (us : List Tr) : ∀ vs : List Tr, lastB us = true → partF us vs = true → ∃ A E, (combT us).subs (combT vs) = A ++ [E] ∧ A ++ sidesT E = quoF us vs := by
  induction us with
  | nil => intro vs _ _; exact ⟨[], combT vs, by cases vs <;> rfl, by rw [sides_comb]; rfl⟩
  | cons u us ih =>
    intro vs h k
    cases vs with
    | nil => rw [partF_nil _ h (by simp)] at k; cases k
    | cons v vs =>
      rw [partF, Bool.and_eq_true] at k
      have hl : lastB us = true := by
        by_cases hu : us = []
        · subst hu; rfl
        · rwa [lastB_cons u hu] at h
      obtain ⟨A, E, h1, h2⟩ := ih vs hl k.2
      refine ⟨u.subs v ++ A, E, ?_, ?_⟩
      · show u.subs v ++ (combT us).subs (combT vs) = _
        rw [h1, List.append_assoc]
      · rw [List.append_assoc, h2]; rfl
end Go.Proofs.Ytplmbdljhgicfaa
