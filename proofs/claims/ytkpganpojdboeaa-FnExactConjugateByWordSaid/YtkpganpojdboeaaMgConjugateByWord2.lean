/- Texts that the claim needs, part 3. -/
import Derived.Test.YtkpganpojdboeaaMgConjugateByWord1
import Derived.WalkKit
/-! EqP -/
namespace Go.Proofs.Ytkpganpojdboeaa

theorem red_first0 {p : Pr} (hl : 0 < (both p).length) : red p = red (dropP p ((both p).getD 0 0)) := by
  cases h : both p with
  | nil => rw [h] at hl; simp at hl
  | cons n ns =>
    have := redBy_step h []
    exact this
theorem mem_nd {x y : Tr} {n : Int} (h : ¬ (x = .lf ∧ y = .lf)) : n ∈ (Tr.nd x y).exps 0 ↔ n ∈ x.exps 0 ∨ n - x.leaves ∈ y.exps 0 := by
  have hb : (x.isLf && y.isLf) = false := by
    rw [Bool.eq_false_iff]
    exact fun e => h (both_lf e)
  rw [Tr.exps, hb]
  simp only [Bool.false_eq_true, if_false, List.nil_append, List.mem_append, Int.zero_add]
  rw [exps_shift_mem y]
theorem exps_ne {x : Tr} {n : Int} (h : n ∈ x.exps 0) : x ≠ .lf := by
  intro e
  rw [e] at h
  simp [Tr.exps] at h
theorem mem_left {x y : Tr} {n : Int} (h : n ∈ x.exps 0) : n ∈ (Tr.nd x y).exps 0 := (mem_nd (fun e => exps_ne h e.1)).2 (.inl h)
theorem mem_right {x y : Tr} {n : Int} (h : n - x.leaves ∈ y.exps 0) : n ∈ (Tr.nd x y).exps 0 := (mem_nd (fun e => exps_ne h e.2)).2 (.inr h)
theorem drop_left {x y : Tr} {n : Int} (h : n ∈ x.exps 0) : (Tr.nd x y).dropAt n = .nd (x.dropAt n) y := by
  have hb : (x.isLf && y.isLf) = false := by
    rw [Bool.eq_false_iff]
    exact fun e => exps_ne h (both_lf e).1
  have := exps_range x 0 n h
  rw [Tr.dropAt, hb, if_neg (by simp), if_pos (by omega)]
theorem drop_right {x y : Tr} {n : Int} (h : n - x.leaves ∈ y.exps 0) : (Tr.nd x y).dropAt n = .nd x (y.dropAt (n - x.leaves)) := by
  have hb : (x.isLf && y.isLf) = false := by
    rw [Bool.eq_false_iff]
    exact fun e => exps_ne h (both_lf e).2
  have := exps_range y 0 _ h
  rw [Tr.dropAt, hb, if_neg (by simp), if_neg (by omega)]
theorem mem_cases {x y : Tr} {n : Int} (h : n ∈ (Tr.nd x y).exps 0) : (x = .lf ∧ y = .lf ∧ n = 0) ∨ n ∈ x.exps 0 ∨ n - x.leaves ∈ y.exps 0 := by
  by_cases e : x = .lf ∧ y = .lf
  · obtain ⟨rfl, rfl⟩ := e
    simp [Tr.exps, Tr.isLf] at h
    exact .inl ⟨rfl, rfl, h⟩
  · exact .inr ((mem_nd e).1 h)
theorem drop_leaves {t : Tr} {n : Int} (h : n ∈ t.exps 0) : ((t.dropAt n).leaves : Int) = t.leaves - 1 := by
  have := dropAt_carets t n h
  unfold Tr.leaves
  omega

/-- Two exposed carets are dropped in either order. -/
theorem drop_two (t : Tr) : ∀ n m : Int, n ∈ t.exps 0 → m ∈ t.exps 0 → n < m →
    n ∈ (t.dropAt m).exps 0 ∧ m - 1 ∈ (t.dropAt n).exps 0 ∧ (t.dropAt m).dropAt n = (t.dropAt n).dropAt (m - 1) := by
  induction t with
  | lf => intro n m h; simp [Tr.exps] at h
  | nd x y ihx ihy =>
    intro n m hn hm hlt
    rcases mem_cases hn with ⟨rfl, rfl, rfl⟩ | hn | hn
    · rcases mem_cases hm with ⟨_, _, rfl⟩ | hm | hm
      · omega
      · simp [Tr.exps] at hm
      · simp [Tr.exps] at hm
    · rcases mem_cases hm with ⟨rfl, _, _⟩ | hm | hm
      · exact absurd rfl (exps_ne hn)
      · obtain ⟨h1, h2, h3⟩ := ihx n m hn hm hlt
        rw [drop_left hm, drop_left hn, drop_left h1, drop_left h2, h3]
        exact ⟨mem_left h1, mem_left h2, rfl⟩
      · have hl := drop_leaves hn
        have hr : m - 1 - ((x.dropAt n).leaves : Int) = m - x.leaves := by omega
        rw [drop_right hm, drop_left hn, drop_left hn, drop_right (by rw [hr]; exact hm), hr]
        exact ⟨mem_left hn, mem_right (by rw [hr]; exact hm), rfl⟩
    · rcases mem_cases hm with ⟨_, rfl, _⟩ | hm | hm
      · exact absurd rfl (exps_ne hn)
      · have h1 := exps_range x 0 m hm
        have h2 := exps_range y 0 _ hn
        omega
      · obtain ⟨h1, h2, h3⟩ := ihy _ _ hn hm (by omega)
        have e : m - 1 - (x.leaves : Int) = m - x.leaves - 1 := by omega
        rw [drop_right hm, drop_right hn, drop_right h1, drop_right (by rw [e]; exact h2), e, h3]
        exact ⟨mem_right h1, mem_right (by rw [e]; exact h2), rfl⟩

theorem both_two {p : Pr} {n m : Int} (hn : n ∈ both p) (hm : m ∈ both p) (h : n < m) :
    n ∈ both (dropP p m) ∧ m - 1 ∈ both (dropP p n) ∧ dropP (dropP p m) n = dropP (dropP p n) (m - 1) := by
  rw [mem_both] at hn hm
  obtain ⟨a1, a2, a3⟩ := drop_two p.1 n m hn.1 hm.1 h
  obtain ⟨b1, b2, b3⟩ := drop_two p.2 n m hn.2 hm.2 h
  exact ⟨mem_both.2 ⟨a1, b1⟩, mem_both.2 ⟨a2, b2⟩, by unfold dropP; dsimp only; rw [a3, b3]⟩

/-- Whatever is dropped first, the same reduced pair is left. -/
theorem red_drop : ∀ (k : Nat) (p : Pr), p.1.carets = k → ∀ n, n ∈ both p → red (dropP p n) = red p := by
  intro k
  induction k using Nat.strongRecOn with
  | _ k ih =>
    intro p hk n hn
    have hl : 0 < (both p).length := List.length_pos_of_mem hn
    have h0 := red_first0 hl
    have hm : (both p).getD 0 0 ∈ both p := by
      cases hb : both p with
      | nil => rw [hb] at hl; simp at hl
      | cons a l => simp
    generalize (both p).getD 0 0 = m at h0 hm
    rw [h0]
    have c1 := dropP_carets hn
    have c2 := dropP_carets hm
    rcases Int.lt_trichotomy n m with h | h | h
    · obtain ⟨h1, h2, h3⟩ := both_two hn hm h
      rw [← ih (dropP p m).1.carets (by omega) _ rfl n h1, ← ih (dropP p n).1.carets (by omega) _ rfl (m - 1) h2, h3]
    · rw [h]
    · obtain ⟨h1, h2, h3⟩ := both_two hm hn h
      rw [← ih (dropP p n).1.carets (by omega) _ rfl m h1, ← ih (dropP p m).1.carets (by omega) _ rfl (n - 1) h2, h3]

theorem fillR_app (t : Tr) : ∀ us vs : List Tr, us.length = t.leaves → t.fillR (us ++ vs) = (t.fill us, vs) := by
  induction t with
  | lf =>
    intro us vs h
    match us, h with
    | [u], _ => rfl
    | [], h => simp [Tr.leaves] at h
    | _ :: _ :: _, h => simp [Tr.leaves, Tr.carets] at h
  | nd l r ihl ihr =>
    intro us vs h
    rw [leaves_nd] at h
    have hA : (us.take l.leaves).length = l.leaves := by rw [List.length_take]; omega
    have hB : (us.drop l.leaves).length = r.leaves := by rw [List.length_drop]; omega
    have e := List.take_append_drop l.leaves us
    generalize us.take l.leaves = A at *
    generalize us.drop l.leaves = B at *
    subst e
    have h1 := ihl A (B ++ vs) hA
    have h2 := ihr B vs hB
    have h3 := ihl A B hA
    have h4 := ihr B [] hB
    rw [List.append_nil] at h4
    have e : Tr.fill (.nd l r) (A ++ B) = .nd (l.fill A) (r.fill B) := by
      show Tr.nd (l.fillR (A ++ B)).1 (r.fillR (l.fillR (A ++ B)).2).1 = _
      rw [h3, h4]
    rw [e, Tr.fillR, List.append_assoc, h1, h2]
theorem fill_nd {l r : Tr} {A B : List Tr} (hA : A.length = l.leaves) (hB : B.length = r.leaves) : Tr.fill (.nd l r) (A ++ B) = .nd (l.fill A) (r.fill B) := by
  have h3 := fillR_app l A B hA
  have h4 := fillR_app r B [] hB
  rw [List.append_nil] at h4
  show Tr.nd (l.fillR (A ++ B)).1 (r.fillR (l.fillR (A ++ B)).2).1 = _
  rw [h3, h4]
theorem fill_lf (u : Tr) : Tr.fill .lf [u] = u := rfl
/-- Leaves of a list of trees. -/
def sumL (us : List Tr) : Nat := (us.map Tr.leaves).sum
theorem sumL_cons (u : Tr) (us : List Tr) : sumL (u :: us) = u.leaves + sumL us := by simp [sumL]
theorem sumL_append (us vs : List Tr) : sumL (us ++ vs) = sumL us + sumL vs := by simp [sumL]
theorem sumL_eq (us : List Tr) : sumL us = sumC us + us.length := by
  induction us with
  | nil => rfl
  | cons u us ih => rw [sumL_cons, sumC_cons, ih, List.length_cons]; unfold Tr.leaves; omega
theorem fill_leaves {t : Tr} {us : List Tr} (h : us.length = t.leaves) : (t.fill us).leaves = sumL us := by
  rw [sumL_eq, h]
  unfold Tr.leaves
  rw [fill_carets t us h]
  omega
/-- The list of a caret's leaves, parted. -/
theorem partsT {l r : Tr} {us : List Tr} (h : us.length = (Tr.nd l r).leaves) : ∃ A B, us = A ++ B ∧ A.length = l.leaves ∧ B.length = r.leaves := by
  rw [leaves_nd] at h
  exact ⟨us.take l.leaves, us.drop l.leaves, (List.take_append_drop _ _).symm, by rw [List.length_take]; omega, by rw [List.length_drop]; omega⟩

/-- An exposed caret that was filled in. -/
theorem fill_drop (t : Tr) : ∀ (ps : List Tr) (u : Tr) (bs : List Tr) (m : Int), (ps ++ u :: bs).length = t.leaves → m ∈ u.exps 0 →
    ((sumL ps : Int) + m) ∈ (t.fill (ps ++ u :: bs)).exps 0 ∧ (t.fill (ps ++ u :: bs)).dropAt ((sumL ps : Int) + m) = t.fill (ps ++ u.dropAt m :: bs) := by
  induction t with
  | lf =>
    intro ps u bs m h hm
    match ps, bs, h with
    | [], [], _ =>
      have e : ((sumL [] : Nat) : Int) + m = m := by simp [sumL]
      rw [e]
      exact ⟨hm, rfl⟩
    | [], _ :: _, h => simp [Tr.leaves, Tr.carets] at h
    | _ :: _, _, h => simp [Tr.leaves, Tr.carets] at h
  | nd l r ihl ihr =>
    intro ps u bs m h hm
    rw [leaves_nd, List.length_append, List.length_cons] at h
    by_cases hlt : ps.length < l.leaves
    · have hb1 : (bs.take (l.leaves - ps.length - 1)).length = l.leaves - ps.length - 1 := by rw [List.length_take]; omega
      have hb2 : (bs.drop (l.leaves - ps.length - 1)).length = r.leaves := by rw [List.length_drop]; omega
      have e := List.take_append_drop (l.leaves - ps.length - 1) bs
      generalize bs.take (l.leaves - ps.length - 1) = b1 at *
      generalize bs.drop (l.leaves - ps.length - 1) = b2 at *
      subst e
      have hA : ∀ v : Tr, (ps ++ v :: b1).length = l.leaves := by intro v; rw [List.length_append, List.length_cons]; omega
      have ee : ∀ v : Tr, ps ++ v :: (b1 ++ b2) = (ps ++ v :: b1) ++ b2 := by intro v; simp
      obtain ⟨h1, h2⟩ := ihl ps u b1 m (hA u) hm
      rw [ee, ee, fill_nd (hA _) hb2, fill_nd (hA _) hb2, drop_left h1, h2]
      exact ⟨mem_left h1, rfl⟩
    · have ha1 : (ps.take l.leaves).length = l.leaves := by rw [List.length_take]; omega
      have ha2 : (ps.drop l.leaves).length + l.leaves = ps.length := by rw [List.length_drop]; omega
      have e := List.take_append_drop l.leaves ps
      generalize ps.take l.leaves = a1 at *
      generalize ps.drop l.leaves = a2 at *
      subst e
      have hB : ∀ v : Tr, (a2 ++ v :: bs).length = r.leaves := by intro v; rw [List.length_append, List.length_cons]; omega
      have ee : ∀ v : Tr, a1 ++ a2 ++ v :: bs = a1 ++ (a2 ++ v :: bs) := by intro v; simp
      obtain ⟨h1, h2⟩ := ihr a2 u bs m (hB u) hm
      have hl := fill_leaves ha1
      have es : ((sumL (a1 ++ a2) : Nat) : Int) + m - ((l.fill a1).leaves : Int) = (sumL a2 : Int) + m := by rw [sumL_append, hl]; omega
      rw [ee, ee, fill_nd ha1 (hB _), fill_nd ha1 (hB _), drop_right (by rw [es]; exact h1), es, h2]
      exact ⟨mem_right (by rw [es]; exact h1), rfl⟩

theorem ex_exps (t : Tr) : 0 < t.carets → ∃ m, m ∈ t.exps 0 := by
  induction t with
  | lf => intro h; simp [Tr.carets] at h
  | nd x y ihx ihy =>
    intro _
    by_cases hx : 0 < x.carets
    · obtain ⟨m, hm⟩ := ihx hx
      exact ⟨m, mem_left hm⟩
    · by_cases hy : 0 < y.carets
      · obtain ⟨m, hm⟩ := ihy hy
        exact ⟨m + x.leaves, mem_right (by rw [show m + (x.leaves : Int) - x.leaves = m by omega]; exact hm)⟩
      · have e1 : x = .lf := by cases x with
          | lf => rfl
          | nd _ _ => simp [Tr.carets] at hx
        have e2 : y = .lf := by cases y with
          | lf => rfl
          | nd _ _ => simp [Tr.carets] at hy
        subst e1; subst e2
        exact ⟨0, by simp [Tr.exps, Tr.isLf]⟩
theorem fill_lfs (t : Tr) : t.fill (List.replicate t.leaves .lf) = t := by
  induction t with
  | lf => rfl
  | nd l r ihl ihr => rw [leaves_nd, ← List.replicate_append_replicate, fill_nd (by simp) (by simp), ihl, ihr]
theorem all_lf (us : List Tr) (h : sumC us = 0) : us = List.replicate us.length .lf := by
  induction us with
  | nil => rfl
  | cons u us ih =>
    rw [sumC_cons] at h
    rw [List.length_cons, List.replicate_succ, ← ih (by omega)]
    cases u with
    | lf => rfl
    | nd _ _ => simp [Tr.carets] at h
theorem ex_caret (us : List Tr) : 0 < sumC us → ∃ ps u bs, us = ps ++ u :: bs ∧ 0 < u.carets := by
  induction us with
  | nil => intro h; simp [sumC] at h
  | cons u us ih =>
    intro h
    by_cases hu : 0 < u.carets
    · exact ⟨[], u, us, rfl, hu⟩
    · rw [sumC_cons] at h
      obtain ⟨ps, v, bs, rfl, hv⟩ := ih (by omega)
      exact ⟨u :: ps, v, bs, rfl, hv⟩
/-- A pair with trees at its leaves. -/
def expE (p : Pr) (us : List Tr) : Pr := (p.1.fill us, p.2.fill us)
theorem red_expE {p : Pr} (hp : okP p) : ∀ (k : Nat) (us : List Tr), sumC us = k → us.length = p.1.leaves → red (expE p us) = red p := by
  have hq : p.1.leaves = p.2.leaves := by unfold okP at hp; unfold Tr.leaves; omega
  intro k
  induction k with
  | zero =>
    intro us h hl
    have e := all_lf us h
    rw [hl] at e
    have : expE p us = p := by
      unfold expE
      rw [e, fill_lfs, hq, fill_lfs]
    rw [this]
  | succ k ih =>
    intro us h hl
    obtain ⟨ps, u, bs, rfl, hu⟩ := ex_caret us (by omega)
    obtain ⟨m, hm⟩ := ex_exps u hu
    obtain ⟨a1, a2⟩ := fill_drop p.1 ps u bs m hl hm
    obtain ⟨b1, b2⟩ := fill_drop p.2 ps u bs m (by omega) hm
    have hb : ((sumL ps : Int) + m) ∈ both (expE p (ps ++ u :: bs)) := mem_both.2 ⟨a1, b1⟩
    have hd : dropP (expE p (ps ++ u :: bs)) ((sumL ps : Int) + m) = expE p (ps ++ u.dropAt m :: bs) := by
      unfold dropP expE
      dsimp only
      rw [a2, b2]
    have hc := dropAt_carets u m hm
    rw [← red_drop _ _ rfl _ hb, hd]
    refine ih _ ?_ ?_
    · rw [sumC_append, sumC_cons] at h ⊢; omega
    · rw [← hl]; simp

/-- Trees with trees at their leaves. -/
def compT : List Tr → List Tr → List Tr
  | [], _ => []
  | u :: us, vs => u.fill (vs.take u.leaves) :: compT us (vs.drop u.leaves)
theorem compT_length (us : List Tr) : ∀ vs, (compT us vs).length = us.length := by
  induction us with
  | nil => intro vs; rfl
  | cons u us ih => intro vs; simp [compT, ih]
theorem compT_append (A : List Tr) : ∀ (B V W : List Tr), V.length = sumL A → compT (A ++ B) (V ++ W) = compT A V ++ compT B W := by
  induction A with
  | nil => intro B V W h; obtain rfl : V = [] := List.length_eq_zero_iff.1 (by simpa [sumL] using h); rfl
  | cons u A ih =>
    intro B V W h
    rw [sumL_cons] at h
    rw [List.cons_append, compT, compT, List.take_append_of_le_length (by omega), List.drop_append_of_le_length (by omega), ih _ _ _ (by rw [List.length_drop]; omega)]
    rfl
theorem fill_comp (t : Tr) : ∀ us vs : List Tr, us.length = t.leaves → vs.length = sumL us → t.fill (compT us vs) = (t.fill us).fill vs := by
  induction t with
  | lf =>
    intro us vs h hv
    match us, h with
    | [u], _ =>
      simp [sumL] at hv
      show Tr.fill .lf [u.fill (vs.take u.leaves)] = u.fill vs
      rw [fill_lf, List.take_of_length_le (by omega)]
    | [], h => simp [Tr.leaves] at h
    | _ :: _ :: _, h => simp [Tr.leaves, Tr.carets] at h
  | nd l r ihl ihr =>
    intro us vs h hv
    obtain ⟨A, B, rfl, hA, hB⟩ := partsT h
    rw [sumL_append] at hv
    have hV : (vs.take (sumL A)).length = sumL A := by rw [List.length_take]; omega
    have hW : (vs.drop (sumL A)).length = sumL B := by rw [List.length_drop]; omega
    have e := List.take_append_drop (sumL A) vs
    generalize vs.take (sumL A) = V at *
    generalize vs.drop (sumL A) = W at *
    subst e
    rw [compT_append _ _ _ _ hV, fill_nd (by rw [compT_length, hA]) (by rw [compT_length, hB]), fill_nd hA hB, fill_nd (by rw [hV, fill_leaves hA]) (by rw [hW, fill_leaves hB]), ihl A V hA hV, ihr B W hB hW]
theorem fill_subs (a : Tr) : ∀ g : Tr, a.part g = true → a.fill (a.subs g) = g := by
  induction a with
  | lf => intro g h; rfl
  | nd l r ihl ihr =>
    intro g h
    cases g with
    | lf => simp [Tr.part] at h
    | nd p q =>
      simp [Tr.part] at h
      rw [Tr.subs, fill_nd (below_carets l p h.1).2 (below_carets r q h.2).2, ihl p h.1, ihr q h.2]
theorem subs_fill (a : Tr) : ∀ us : List Tr, us.length = a.leaves → a.part (a.fill us) = true ∧ a.subs (a.fill us) = us := by
  induction a with
  | lf =>
    intro us h
    match us, h with
    | [u], _ => exact ⟨rfl, rfl⟩
    | [], h => simp [Tr.leaves] at h
    | _ :: _ :: _, h => simp [Tr.leaves, Tr.carets] at h
  | nd l r ihl ihr =>
    intro us h
    obtain ⟨A, B, rfl, hA, hB⟩ := partsT h
    rw [fill_nd hA hB]
    have h1 := ihl A hA
    have h2 := ihr B hB
    exact ⟨by simp [Tr.part, h1.1, h2.1], by rw [Tr.subs, h1.2, h2.2]⟩
theorem join_least (a : Tr) : ∀ b g : Tr, a.part g = true → b.part g = true → (a.join b).part g = true := by
  induction a with
  | lf => intro b g h k; exact k
  | nd l r ihl ihr =>
    intro b g h k
    cases b with
    | lf => exact h
    | nd p q =>
      cases g with
      | lf => simp [Tr.part] at h
      | nd x y =>
        simp [Tr.part] at h k
        simp [Tr.join, Tr.part, ihl p x h.1 k.1, ihr q y h.2 k.2]
theorem okP_leaves {p : Pr} (hp : okP p) : p.1.leaves = p.2.leaves := by unfold okP at hp; unfold Tr.leaves; omega
/-- The product by any tree in the middle. -/
theorem mulP_any {p q : Pr} (hp : okP p) (hq : okP q) {S T : List Tr} (hS : S.length = p.2.leaves) (hT : T.length = q.1.leaves) (h : p.2.fill S = q.1.fill T) :
    red (p.1.fill S, q.2.fill T) = mulP p q := by
  have hJ : (p.2.join q.1).part (p.2.fill S) = true := join_least _ _ _ (subs_fill p.2 S hS).1 (by rw [h]; exact (subs_fill q.1 T hT).1)
  have hU := below_carets _ _ hJ
  have hg := fill_subs _ _ hJ
  generalize (p.2.join q.1).subs (p.2.fill S) = U at hU hg
  have s1 := below_carets p.2 _ (part_join p.2 q.1)
  have s2 := below_carets q.1 _ (part_join' p.2 q.1)
  have f1 := fill_subs p.2 _ (part_join p.2 q.1)
  have f2 := fill_subs q.1 _ (part_join' p.2 q.1)
  have o1 := okP_leaves hp
  have o2 := okP_leaves hq
  have l1 : sumL (p.2.subs (p.2.join q.1)) = (p.2.join q.1).leaves := by rw [← fill_leaves s1.2, f1]
  have l2 : sumL (q.1.subs (p.2.join q.1)) = (p.2.join q.1).leaves := by rw [← fill_leaves s2.2, f2]
  unfold mulP
  have hr : rawP p q = (p.1.fill (p.2.subs (p.2.join q.1)), q.2.fill (q.1.subs (p.2.join q.1))) := rfl
  have c1 : compT (p.2.subs (p.2.join q.1)) U = S := by
    rw [← (subs_fill p.2 S hS).2, ← hg, ← (subs_fill p.2 (compT (p.2.subs (p.2.join q.1)) U) (by rw [compT_length, s1.2])).2, fill_comp _ _ _ s1.2 (by rw [hU.2, l1]), f1]
  have c2 : compT (q.1.subs (p.2.join q.1)) U = T := by
    rw [← (subs_fill q.1 T hT).2, ← h, ← hg, ← (subs_fill q.1 (compT (q.1.subs (p.2.join q.1)) U) (by rw [compT_length, s2.2])).2, fill_comp _ _ _ s2.2 (by rw [hU.2, l2]), f2]
  have e : (p.1.fill S, q.2.fill T) = expE (rawP p q) U := by
    rw [hr, ← c1, ← c2]
    unfold expE
    dsimp only
    rw [fill_comp _ _ _ (by rw [s1.2, o1]) (by rw [hU.2, l1]), fill_comp _ _ _ (by rw [s2.2, o2]) (by rw [hU.2, l2])]
  have hok : okP (rawP p q) := by
    have k1 := fill_leaves (t := p.1) (us := p.2.subs (p.2.join q.1)) (by rw [s1.2, o1])
    have k2 := fill_leaves (t := q.2) (us := q.1.subs (p.2.join q.1)) (by rw [s2.2, o2])
    rw [hr]
    unfold okP
    dsimp only
    rw [l1] at k1
    rw [l2] at k2
    unfold Tr.leaves at k1 k2
    omega
  rw [e]
  refine red_expE hok _ U rfl ?_
  rw [hU.2, hr]
  dsimp only
  rw [fill_leaves (by rw [s1.2, o1]), l1]

theorem expE_ok {p : Pr} (hp : okP p) {V : List Tr} (hV : V.length = p.1.leaves) : okP (expE p V) := by
  have o1 := okP_leaves hp
  have k1 := fill_leaves (t := p.1) (us := V) hV
  have k2 := fill_leaves (t := p.2) (us := V) (by omega)
  unfold okP expE
  dsimp only
  unfold Tr.leaves at k1 k2
  omega
theorem mulP_expL {p q : Pr} (hp : okP p) (hq : okP q) {V : List Tr} (hV : V.length = p.1.leaves) : mulP (expE p V) q = mulP p q := by
  have o1 := okP_leaves hp
  have s1 := below_carets (expE p V).2 _ (part_join (expE p V).2 q.1)
  have s2 := below_carets q.1 _ (part_join' (expE p V).2 q.1)
  have f1 := fill_subs (expE p V).2 _ (part_join (expE p V).2 q.1)
  have f2 := fill_subs q.1 _ (part_join' (expE p V).2 q.1)
  have hl : (expE p V).2.leaves = sumL V := fill_leaves (by omega)
  unfold mulP
  have hr : rawP (expE p V) q = ((expE p V).1.fill ((expE p V).2.subs ((expE p V).2.join q.1)), q.2.fill (q.1.subs ((expE p V).2.join q.1))) := rfl
  generalize (expE p V).2.subs ((expE p V).2.join q.1) = S at *
  generalize q.1.subs ((expE p V).2.join q.1) = T at *
  have e1 : (expE p V).1.fill S = p.1.fill (compT V S) := (fill_comp _ _ _ hV (by rw [s1.2, hl])).symm
  have e2 : (expE p V).2.fill S = p.2.fill (compT V S) := (fill_comp _ _ _ (by omega) (by rw [s1.2, hl])).symm
  rw [hr, e1]
  exact mulP_any hp hq (by rw [compT_length]; omega) s2.2 (by rw [← e2, f1, f2])
theorem mulP_expR {p q : Pr} (hp : okP p) (hq : okP q) {V : List Tr} (hV : V.length = q.1.leaves) : mulP p (expE q V) = mulP p q := by
  have o1 := okP_leaves hq
  have s1 := below_carets p.2 _ (part_join p.2 (expE q V).1)
  have s2 := below_carets (expE q V).1 _ (part_join' p.2 (expE q V).1)
  have f1 := fill_subs p.2 _ (part_join p.2 (expE q V).1)
  have f2 := fill_subs (expE q V).1 _ (part_join' p.2 (expE q V).1)
  have hl : (expE q V).1.leaves = sumL V := fill_leaves hV
  unfold mulP
  have hr : rawP p (expE q V) = (p.1.fill (p.2.subs (p.2.join (expE q V).1)), (expE q V).2.fill ((expE q V).1.subs (p.2.join (expE q V).1))) := rfl
  generalize p.2.subs (p.2.join (expE q V).1) = S at *
  generalize (expE q V).1.subs (p.2.join (expE q V).1) = T at *
  have e1 : (expE q V).1.fill T = q.1.fill (compT V T) := (fill_comp _ _ _ hV (by rw [s2.2, hl])).symm
  have e2 : (expE q V).2.fill T = q.2.fill (compT V T) := (fill_comp _ _ _ (by omega) (by rw [s2.2, hl])).symm
  rw [hr, e2]
  exact mulP_any hp hq s1.2 (by rw [compT_length]; omega) (by rw [← e1, f1, f2])

/-- So many leaves, but for a caret at one of them. -/
def bump (k n : Nat) : List Tr := List.replicate n .lf ++ .nd .lf .lf :: List.replicate (k - n - 1) .lf
theorem bump_length {k n : Nat} (h : n < k) : (bump k n).length = k := by simp [bump]; omega
theorem drop_fill (t : Tr) : ∀ n : Int, n ∈ t.exps 0 → (t.dropAt n).fill (bump (t.dropAt n).leaves n.toNat) = t := by
  induction t with
  | lf => intro n h; simp [Tr.exps] at h
  | nd x y ihx ihy =>
    intro n hn
    have hrg := exps_range _ 0 n hn
    rcases mem_cases hn with ⟨rfl, rfl, rfl⟩ | hn | hn
    · rfl
    · have h1 := exps_range x 0 n hn
      have hl := drop_leaves hn
      rw [drop_left hn]
      have e : bump (Tr.nd (x.dropAt n) y).leaves n.toNat = bump (x.dropAt n).leaves n.toNat ++ List.replicate y.leaves .lf := by
        rw [leaves_nd]
        unfold bump
        rw [List.append_assoc, List.cons_append, List.replicate_append_replicate]
        congr 3
        omega
      rw [e, fill_nd (bump_length (by omega)) (by simp), ihx n hn, fill_lfs]
    · have h1 := exps_range y 0 _ hn
      have hl := drop_leaves hn
      rw [drop_right hn]
      have e : bump (Tr.nd x (y.dropAt (n - x.leaves))).leaves n.toNat = List.replicate x.leaves .lf ++ bump (y.dropAt (n - x.leaves)).leaves (n - x.leaves).toNat := by
        rw [leaves_nd]
        unfold bump
        rw [← List.append_assoc, List.replicate_append_replicate]
        congr 3 <;> omega
      rw [e, fill_nd (by simp) (bump_length (by omega)), ihy _ hn, fill_lfs]
theorem drop_exp {p : Pr} (hp : okP p) {n : Int} (h : n ∈ both p) : okP (dropP p n) ∧ ∃ V, V.length = (dropP p n).1.leaves ∧ expE (dropP p n) V = p := by
  have hc := dropP_carets h
  have ho : okP (dropP p n) := by unfold okP at *; omega
  obtain ⟨h1, h2⟩ := mem_both.1 h
  have r1 := exps_range p.1 0 n h1
  have l1 := drop_leaves h1
  refine ⟨ho, bump (dropP p n).1.leaves n.toNat, bump_length (by show n.toNat < (p.1.dropAt n).leaves; omega), ?_⟩
  unfold expE
  rw [show (dropP p n).1.fill (bump (dropP p n).1.leaves n.toNat) = p.1 from drop_fill p.1 n h1, okP_leaves ho, show (dropP p n).2.fill (bump (dropP p n).2.leaves n.toNat) = p.2 from drop_fill p.2 n h2]
/-- A pair is made by the reduced one with trees at its leaves. -/
theorem red_exp : ∀ (k : Nat) (p : Pr), p.1.carets = k → okP p → okP (red p) ∧ ∃ V, V.length = (red p).1.leaves ∧ expE (red p) V = p := by
  intro k
  induction k using Nat.strongRecOn with
  | _ k ih =>
    intro p hk hp
    by_cases hl : 0 < (both p).length
    · have h0 := red_first0 hl
      have hm : (both p).getD 0 0 ∈ both p := by
        cases hb : both p with
        | nil => rw [hb] at hl; simp at hl
        | cons a l => simp
      generalize (both p).getD 0 0 = m at h0 hm
      have c2 := dropP_carets hm
      obtain ⟨ho, V, hV, hE⟩ := drop_exp hp hm
      obtain ⟨hr, U, hU, hF⟩ := ih (dropP p m).1.carets (by omega) _ rfl ho
      rw [h0]
      have hUl : sumL U = (dropP p m).1.leaves := by rw [← fill_leaves hU]; exact congrArg (fun x : Pr => x.1.leaves) hF
      refine ⟨hr, compT U V, by rw [compT_length, hU], ?_⟩
      have o1 := okP_leaves hr
      have g1 := fill_comp (red (dropP p m)).1 U V hU (by rw [hV, hUl])
      have g2 := fill_comp (red (dropP p m)).2 U V (by omega) (by rw [hV, hUl])
      unfold expE
      rw [g1, g2]
      rw [show (red (dropP p m)).1.fill U = (dropP p m).1 from congrArg Prod.fst hF, show (red (dropP p m)).2.fill U = (dropP p m).2 from congrArg Prod.snd hF]
      exact hE
    · have hb : both p = [] := List.length_eq_zero_iff.1 (by omega)
      have hr := (red_self p).2 hb
      rw [hr]
      have o1 := okP_leaves hp
      refine ⟨hp, List.replicate p.1.leaves .lf, by simp, ?_⟩
      unfold expE
      rw [fill_lfs, o1, fill_lfs]
theorem mulP_redL {p q : Pr} (hp : okP p) (hq : okP q) : mulP (red p) q = mulP p q := by
  obtain ⟨hr, V, hV, hE⟩ := red_exp _ p rfl hp
  have := mulP_expL hr hq hV
  rw [hE] at this
  exact this.symm
theorem mulP_redR {p q : Pr} (hp : okP p) (hq : okP q) : mulP p (red q) = mulP p q := by
  obtain ⟨hr, V, hV, hE⟩ := red_exp _ q rfl hq
  have := mulP_expR hp hr hV
  rw [hE] at this
  exact this.symm
end Go.Proofs.Ytkpganpojdboeaa

/-! CjP -/
namespace Go.Proofs.Ytkpganpojdboeaa

theorem red_inv : ∀ (k : Nat) (p : Pr), p.1.carets = k → red (invP p) = invP (red p) := by
  intro k
  induction k using Nat.strongRecOn with
  | _ k ih =>
    intro p hk
    by_cases hl : 0 < (both p).length
    · have h0 := red_first0 hl
      have hm : (both p).getD 0 0 ∈ both p := by
        cases hb : both p with
        | nil => rw [hb] at hl; simp at hl
        | cons a l => simp
      generalize (both p).getD 0 0 = m at h0 hm
      have c2 := dropP_carets hm
      have hm' : m ∈ both (invP p) := mem_both.2 ⟨(mem_both.1 hm).2, (mem_both.1 hm).1⟩
      have e1 := red_drop _ (invP p) rfl m hm'
      have e2 := ih (dropP p m).1.carets (by omega) (dropP p m) rfl
      rw [h0, ← e2, ← e1]
      rfl
    · have hb : both p = [] := List.length_eq_zero_iff.1 (by omega)
      have hb' : both (invP p) = [] := by
        cases h : both (invP p) with
        | nil => rfl
        | cons a l =>
          have ha : a ∈ both (invP p) := by rw [h]; simp
          have : a ∈ both p := mem_both.2 ⟨(mem_both.1 ha).2, (mem_both.1 ha).1⟩
          rw [hb] at this; simp at this
      rw [(red_self p).2 hb, (red_self (invP p)).2 hb']
theorem raw_inv (p q : Pr) : rawP (invP q) (invP p) = invP (rawP p q) := by
  unfold rawP invP
  dsimp only
  rw [join_comm q.1 p.2]
theorem inv_mul (p q : Pr) : invP (mulP p q) = mulP (invP q) (invP p) := by
  unfold mulP
  rw [raw_inv, red_inv _ _ rfl]
theorem inv_ok {p : Pr} (h : okP p) : okP (invP p) := h.symm
theorem mul_assoc {p q r : Pr} (hp : okP p) (hq : okP q) (hr : okP r) : mulP (mulP p q) r = mulP p (mulP q r) := by
  have s1 := below_carets p.2 _ (part_join p.2 q.1)
  have s2 := below_carets q.1 _ (part_join' p.2 q.1)
  have f1 := fill_subs p.2 _ (part_join p.2 q.1)
  have f2 := fill_subs q.1 _ (part_join' p.2 q.1)
  have o1 := okP_leaves hp
  have o2 := okP_leaves hq
  have o3 := okP_leaves hr
  have hraw := rawP_ok hp hq
  have eR : rawP p q = (p.1.fill (p.2.subs (p.2.join q.1)), q.2.fill (q.1.subs (p.2.join q.1))) := rfl
  have l1 : sumL (p.2.subs (p.2.join q.1)) = (p.2.join q.1).leaves := by rw [← fill_leaves s1.2, f1]
  have l2 : sumL (q.1.subs (p.2.join q.1)) = (p.2.join q.1).leaves := by rw [← fill_leaves s2.2, f2]
  rw [show mulP p q = red (rawP p q) from rfl, mulP_redL hraw hr]
  generalize p.2.subs (p.2.join q.1) = S at *
  generalize q.1.subs (p.2.join q.1) = T at *
  generalize p.2.join q.1 = M at *
  have k1 : (p.1.fill S).leaves = M.leaves := by rw [fill_leaves (by rw [s1.2, o1]), l1]
  have k2 : (q.2.fill T).leaves = M.leaves := by rw [fill_leaves (by rw [s2.2, o2]), l2]
  have t1 := below_carets (q.2.fill T) _ (part_join (q.2.fill T) r.1)
  have t2 := below_carets r.1 _ (part_join' (q.2.fill T) r.1)
  have g1 := fill_subs (q.2.fill T) _ (part_join (q.2.fill T) r.1)
  have g2 := fill_subs r.1 _ (part_join' (q.2.fill T) r.1)
  generalize (q.2.fill T).subs ((q.2.fill T).join r.1) = U at *
  generalize r.1.subs ((q.2.fill T).join r.1) = V at *
  have n1 : sumL U = ((q.2.fill T).join r.1).leaves := by rw [← fill_leaves t1.2, g1]
  have n2 : sumL V = ((q.2.fill T).join r.1).leaves := by rw [← fill_leaves t2.2, g2]
  generalize (q.2.fill T).join r.1 = N at *
  have c1 := fill_comp p.1 S U (by rw [s1.2, o1]) (by rw [t1.2, k2, l1])
  have c2 := fill_comp p.2 S U s1.2 (by rw [t1.2, k2, l1])
  have c3 := fill_comp q.1 T U s2.2 (by rw [t1.2, k2, l2])
  have c4 := fill_comp q.2 T U (by rw [s2.2, o2]) (by rw [t1.2, k2, l2])
  have e1 := mulP_any (p := rawP p q) (q := r) hraw hr (S := U) (T := V) (by rw [eR]; exact t1.2) t2.2 (by rw [eR]; exact g1.trans g2.symm)
  have e2 := mulP_any hq hr (S := compT T U) (T := V) (by rw [compT_length, s2.2, o2]) t2.2 (by rw [c4]; exact g1.trans g2.symm)
  have hX : okP (q.1.fill (compT T U), r.2.fill V) := by
    have a1 := fill_leaves (t := q.1) (us := compT T U) (by rw [compT_length, s2.2])
    have a2 := fill_leaves (t := q.2) (us := compT T U) (by rw [compT_length, s2.2, o2])
    have a3 := fill_leaves (t := r.2) (us := V) (by rw [t2.2, o3])
    rw [c4, g1] at a2
    unfold okP
    dsimp only
    unfold Tr.leaves at *
    omega
  rw [← e2, mulP_redR hp hX, ← e1, eR]
  dsimp only
  have e3 := mulP_any hp hX (S := compT S U) (T := List.replicate (q.1.fill (compT T U)).leaves .lf) (by rw [compT_length, s1.2]) (by simp) (by rw [fill_lfs, c2, c3, f1, f2])
  rw [← e3, c1]
  dsimp only
  congr 2
  have : (q.1.fill (compT T U)).leaves = (r.2.fill V).leaves := okP_leaves hX
  rw [this, fill_lfs]

def idP : Pr := (.lf, .lf)
theorem id_ok : okP idP := rfl
theorem lf_both : both ((.lf, .lf) : Pr) = [] := rfl
theorem red_id : red idP = idP := (red_self _).2 rfl
theorem red_same (t : Tr) : red (t, t) = idP := by
  have h : expE idP [t] = (t, t) := rfl
  rw [← h, red_expE id_ok _ [t] rfl rfl, red_id]
theorem subs_lf (a : Tr) : a.subs a = List.replicate a.leaves .lf := by
  have h := subs_fill a (List.replicate a.leaves .lf) (by simp)
  rw [fill_lfs] at h
  exact h.2
theorem join_self (a : Tr) : a.join a = a := by
  induction a with
  | lf => rfl
  | nd x y ihx ihy => simp [Tr.join, ihx, ihy]
theorem mul_inv {p : Pr} (hp : okP p) : mulP p (invP p) = idP := by
  have e : rawP p (invP p) = (p.1, p.1) := by
    have o := okP_leaves hp
    unfold rawP invP
    dsimp only
    rw [join_self, subs_lf, ← o, fill_lfs]
  unfold mulP
  rw [e, red_same]
theorem join_lf' (t : Tr) : t.join .lf = t := by cases t <;> rfl
theorem mul_id {p : Pr} (hp : okP p) : mulP p idP = red p := by
  have e : rawP p idP = p := by
    have o := okP_leaves hp
    show (p.1.fill (p.2.subs (p.2.join .lf)), Tr.fill .lf (Tr.subs .lf (p.2.join .lf))) = p
    rw [join_lf', subs_lf, ← o, fill_lfs]
    rfl
  unfold mulP
  rw [e]
theorem id_mul {p : Pr} (hp : okP p) : mulP idP p = red p := by
  have h := mul_id (inv_ok hp)
  have h2 := inv_mul (invP p) idP
  have h3 : invP (invP p) = p := rfl
  have h4 : invP idP = idP := rfl
  rw [h3, h4] at h2
  rw [← h2, h, red_inv _ p rfl]
  rfl
theorem red_red (p : Pr) : red (red p) = red p := (red_self _).2 (red_both p [])
theorem mul_red (p q : Pr) : red (mulP p q) = mulP p q := red_red _

/-- The conjugate of p by q. -/
def conP (p q : Pr) : Pr := mulP (mulP (invP q) p) q
theorem conP_ok {p q : Pr} (hp : okP p) (hq : okP q) : okP (conP p q) := mulP_ok (mulP_ok (inv_ok hq) hp) hq
theorem conP_carets {p q : Pr} (hp : okP p) (hq : okP q) : (conP p q).1.carets ≤ q.1.carets + p.1.carets + q.1.carets := by
  have h1 := mulP_carets (inv_ok hq) hp
  have h2 := mulP_carets (mulP_ok (inv_ok hq) hp) hq
  have h3 : (mulP (invP q) p).1.carets = (mulP (invP q) p).2.carets := mulP_ok (inv_ok hq) hp
  have h4 : (invP q).2.carets = q.1.carets := rfl
  unfold conP
  omega
theorem conP_red {p q : Pr} (hp : okP p) (hq : okP q) : conP (red p) q = conP p q := by
  unfold conP
  rw [mulP_redR (inv_ok hq) hp]
theorem con_con {p a b : Pr} (hp : okP p) (ha : okP a) (hb : okP b) : conP (conP p a) b = conP p (mulP a b) := by
  unfold conP
  have ia := inv_ok ha
  have ib := inv_ok hb
  rw [inv_mul, ← mul_assoc ib (mulP_ok ia hp) ha, ← mul_assoc ib ia hp, ← mul_assoc (mulP_ok (mulP_ok ib ia) hp) ha hb]
theorem con_id {p : Pr} (hp : okP p) : conP p idP = red p := by
  unfold conP
  have hr : okP (red p) := red_ok hp []
  rw [show invP idP = idP from rfl, id_mul hp, mul_id hr, red_red]
theorem con_self (p q : Pr) : red (conP p q) = conP p q := mul_red _ _
theorem con_back {p a : Pr} (hp : okP p) (ha : okP a) : conP (conP p a) (invP a) = red p := by
  rw [con_con hp ha (inv_ok ha), mul_inv ha, con_id hp]
end Go.Proofs.Ytkpganpojdboeaa

/-! Cj1 -/
namespace Go.Proofs.Ytkpganpojdboeaa
open Go.RowKit

set_option maxRecDepth 100000 in
set_option maxHeartbeats 2000000 in
theorem cjBy_any (p q : Pr) (w : World) (hok1 : okP p) (hok2 : okP q) (hz : p.1.carets + q.1.carets ≤ 30) :
    Calls Try.prog 45 #[.agg #[.string p.1.str, .string p.2.str], .agg #[.string q.1.str, .string q.2.str]] w (Gives (.agg #[.string (conP p q).1.str, .string (conP p q).2.str]) w) := by
  have hi := inv_ok hok2
  have hu := mulP_ok hi hok1
  have hv := mulP_ok hu hok2
  have huc := mulP_carets hi hok1
  have c1 : (invP q).1.carets = q.2.carets := rfl
  have c2 : (invP q).2.carets = q.1.carets := rfl
  have c3 : q.1.carets = q.2.carets := hok2
  have c4 : (mulP (invP q) p).1.carets = (mulP (invP q) p).2.carets := hu
  have I1 : ∀ w, Calls Try.prog 81 #[.agg #[.string q.1.str, .string q.2.str]] w (Gives (.agg #[.string (invP q).1.str, .string (invP q).2.str]) w) := fun w => prInverse_any q.1.str q.2.str w
  have U := fun w => prTimes_any (invP q) p w hi hok1 (by omega) (by omega)
  have V := fun w => prTimes_any (mulP (invP q) p) q w hu hok2 (by omega) (by omega)
  rw [show conP p q = mulP (mulP (invP q) p) q from rfl]
  clear huc c1 c2 c3 c4 hi hu hv
  generalize mulP (mulP (invP q) p) q = XX at *
  generalize mulP (invP q) p = UU at *
  generalize invP q = IQ at *
  go_enter Try.func45, Try.ntmps45
  go_wp2_with fail
  have hb0 : Below w.heap.size w (((w.alloc (.cells #[.string p.1.str, .string p.2.str] 25 (0, 0))).alloc (.cells #[.string q.1.str, .string q.2.str] 25 (0, 0))).alloc (.cells #[.string ⟨#[]⟩, .string ⟨#[]⟩] 25 (0, 0))) := nxAlloc (nxAlloc (nxAlloc (Below.refl _ _) _) _) _
  have hx0 := heap_keep (nxAlloc (Below.refl _ _) (.cells #[.string ⟨#[]⟩, .string ⟨#[]⟩] 25 (0, 0))) (heap_keep (nxAlloc (Below.refl _ _) (.cells #[.string q.1.str, .string q.2.str] 25 (0, 0))) (heap_alloc_at w (.cells #[.string p.1.str, .string p.2.str] 25 (0, 0))))
  have hx1 := heap_keep (nxAlloc (Below.refl _ _) (.cells #[.string ⟨#[]⟩, .string ⟨#[]⟩] 25 (0, 0))) (heap_alloc_at (w.alloc (.cells #[.string p.1.str, .string p.2.str] 25 (0, 0))) (.cells #[.string q.1.str, .string q.2.str] 25 (0, 0)))
  have hx2 := heap_alloc_at ((w.alloc (.cells #[.string p.1.str, .string p.2.str] 25 (0, 0))).alloc (.cells #[.string q.1.str, .string q.2.str] 25 (0, 0))) (.cells #[.string ⟨#[]⟩, .string ⟨#[]⟩] 25 (0, 0))
  generalize (((w.alloc (.cells #[.string p.1.str, .string p.2.str] 25 (0, 0))).alloc (.cells #[.string q.1.str, .string q.2.str] 25 (0, 0))).alloc (.cells #[.string ⟨#[]⟩, .string ⟨#[]⟩] 25 (0, 0))) = w0 at *
  have e1 : (w.alloc (.cells #[.string p.1.str, .string p.2.str] 25 (0, 0))).heap.size = w.heap.size + 1 := by simp
  rw [e1] at hx1
  clear e1
  have e2 : ((w.alloc (.cells #[.string p.1.str, .string p.2.str] 25 (0, 0))).alloc (.cells #[.string q.1.str, .string q.2.str] 25 (0, 0))).heap.size = w.heap.size + 1 + 1 := by simp
  rw [e2] at hx2
  clear e2
  obtain ⟨hx0a, hx0b, hx0c⟩ := two_facts hx0
  obtain ⟨hx0f, hx0g⟩ := two_frozen hx0
  obtain ⟨hx1a, hx1b, hx1c⟩ := two_facts hx1
  obtain ⟨hx1f, hx1g⟩ := two_frozen hx1
  obtain ⟨hx2a, hx2b, hx2c⟩ := two_facts hx2
  obtain ⟨hx2f, hx2g⟩ := two_frozen hx2
  refine wp_region_clsT 6 (by kernel_rfl) (by kernel_rfl) ?_
  simp only [List.take_succ_cons, List.take_zero, List.drop_succ_cons, List.drop_zero]
  repeat (
    refine wpQuiet_step (fun K hK => ?_)
    go_simp
    first
      | (refine hK _ ?_; clear hK K)
      | (refine ⟨_, fun _ _ => rfl, hK _ ?_⟩; clear hK K)
      | (apply Exists.intro
         refine ⟨fun w' hw' => ?_, hK _ ?_⟩
         · first
             | (go_at_call 81; exact hw'.call (I1 _))
             | (go_at_call 71; first | (with_reducible exact hw'.call (U _)) | (with_reducible exact hw'.call (V _)))
             | (rw [hw'.cell hx0c hx0a]; dsimp only [Result.andThen]; rw [hw'.cell hx0c hx0b]; exact ⟨rfl, rfl⟩)
             | (rw [hw'.cell hx1c hx1a]; dsimp only [Result.andThen]; rw [hw'.cell hx1c hx1b]; exact ⟨rfl, rfl⟩)
         clear hK K))
  refine wpQuiet_nil ?_
  intro w' hw'
  have hbwf := nx hb0 hw'
  replace hx0 := heap_keep hw' hx0
  replace hx1 := heap_keep hw' hx1
  replace hx2 := heap_keep hw' hx2
  clear hw' hb0
  clear hx0a hx0b hx0c hx0f hx0g
  obtain ⟨hx0a, hx0b, hx0c⟩ := two_facts hx0
  obtain ⟨hx0f, hx0g⟩ := two_frozen hx0
  clear hx1a hx1b hx1c hx1f hx1g
  obtain ⟨hx1a, hx1b, hx1c⟩ := two_facts hx1
  obtain ⟨hx1f, hx1g⟩ := two_frozen hx1
  clear hx2a hx2b hx2c hx2f hx2g
  obtain ⟨hx2a, hx2b, hx2c⟩ := two_facts hx2
  obtain ⟨hx2f, hx2g⟩ := two_frozen hx2
  go_wp2_with fail
  obtain ⟨q1, q2⟩ := two_cells (set_two (.string XX.1.str) (.string XX.2.str) hx2)
  refine bodyPost_ret (v := .agg #[.string XX.1.str, .string XX.2.str]) (by simp [q1, q2, results, Try.results45, go_sem]) rfl ⟨rfl, ?_⟩
  exact (hbwf.setCell (by show w.heap.size ≤ w.heap.size + 1 + 1; omega) _).setCell (by show w.heap.size ≤ w.heap.size + 1 + 1; omega) _

set_option maxRecDepth 100000 in
set_option maxHeartbeats 2000000 in
theorem conjugated_any (p q : Pr) (w : World) (hok1 : okP p) (hok2 : okP q) (hz : p.1.carets + q.1.carets ≤ 30) :
    Calls Try.prog 48 #[.agg #[.string p.1.str, .string p.2.str], .agg #[.string q.1.str, .string q.2.str]] w (Gives (.agg #[.string (conP p q).1.str, .string (conP p q).2.str]) w) := by
  have hi := inv_ok hok2
  have hu := mulP_ok hi hok1
  have hv := mulP_ok hu hok2
  have huc := mulP_carets hi hok1
  have c1 : (invP q).1.carets = q.2.carets := rfl
  have c2 : (invP q).2.carets = q.1.carets := rfl
  have c3 : q.1.carets = q.2.carets := hok2
  have c4 : (mulP (invP q) p).1.carets = (mulP (invP q) p).2.carets := hu
  have I1 : ∀ w, Calls Try.prog 85 #[.agg #[.string q.1.str, .string q.2.str]] w (Gives (.agg #[.string (invP q).1.str, .string (invP q).2.str]) w) := fun w => inverse_any q.1.str q.2.str w
  have U := fun w => product_any (invP q) p w hi hok1 (by omega) (by omega)
  have V := fun w => product_any (mulP (invP q) p) q w hu hok2 (by omega) (by omega)
  rw [show conP p q = mulP (mulP (invP q) p) q from rfl]
  clear huc c1 c2 c3 c4 hi hu hv
  generalize mulP (mulP (invP q) p) q = XX at *
  generalize mulP (invP q) p = UU at *
  generalize invP q = IQ at *
  go_enter Try.func48, Try.ntmps48
  go_wp2_with fail
  have hb0 : Below w.heap.size w (((w.alloc (.cells #[.string p.1.str, .string p.2.str] 25 (0, 0))).alloc (.cells #[.string q.1.str, .string q.2.str] 25 (0, 0))).alloc (.cells #[.string ⟨#[]⟩, .string ⟨#[]⟩] 25 (0, 0))) := nxAlloc (nxAlloc (nxAlloc (Below.refl _ _) _) _) _
  have hx0 := heap_keep (nxAlloc (Below.refl _ _) (.cells #[.string ⟨#[]⟩, .string ⟨#[]⟩] 25 (0, 0))) (heap_keep (nxAlloc (Below.refl _ _) (.cells #[.string q.1.str, .string q.2.str] 25 (0, 0))) (heap_alloc_at w (.cells #[.string p.1.str, .string p.2.str] 25 (0, 0))))
  have hx1 := heap_keep (nxAlloc (Below.refl _ _) (.cells #[.string ⟨#[]⟩, .string ⟨#[]⟩] 25 (0, 0))) (heap_alloc_at (w.alloc (.cells #[.string p.1.str, .string p.2.str] 25 (0, 0))) (.cells #[.string q.1.str, .string q.2.str] 25 (0, 0)))
  have hx2 := heap_alloc_at ((w.alloc (.cells #[.string p.1.str, .string p.2.str] 25 (0, 0))).alloc (.cells #[.string q.1.str, .string q.2.str] 25 (0, 0))) (.cells #[.string ⟨#[]⟩, .string ⟨#[]⟩] 25 (0, 0))
  generalize (((w.alloc (.cells #[.string p.1.str, .string p.2.str] 25 (0, 0))).alloc (.cells #[.string q.1.str, .string q.2.str] 25 (0, 0))).alloc (.cells #[.string ⟨#[]⟩, .string ⟨#[]⟩] 25 (0, 0))) = w0 at *
  have e1 : (w.alloc (.cells #[.string p.1.str, .string p.2.str] 25 (0, 0))).heap.size = w.heap.size + 1 := by simp
  rw [e1] at hx1
  clear e1
  have e2 : ((w.alloc (.cells #[.string p.1.str, .string p.2.str] 25 (0, 0))).alloc (.cells #[.string q.1.str, .string q.2.str] 25 (0, 0))).heap.size = w.heap.size + 1 + 1 := by simp
  rw [e2] at hx2
  clear e2
  obtain ⟨hx0a, hx0b, hx0c⟩ := two_facts hx0
  obtain ⟨hx0f, hx0g⟩ := two_frozen hx0
  obtain ⟨hx1a, hx1b, hx1c⟩ := two_facts hx1
  obtain ⟨hx1f, hx1g⟩ := two_frozen hx1
  obtain ⟨hx2a, hx2b, hx2c⟩ := two_facts hx2
  obtain ⟨hx2f, hx2g⟩ := two_frozen hx2
  refine wp_region_clsT 6 (by kernel_rfl) (by kernel_rfl) ?_
  simp only [List.take_succ_cons, List.take_zero, List.drop_succ_cons, List.drop_zero]
  repeat (
    refine wpQuiet_step (fun K hK => ?_)
    go_simp
    first
      | (refine hK _ ?_; clear hK K)
      | (refine ⟨_, fun _ _ => rfl, hK _ ?_⟩; clear hK K)
      | (apply Exists.intro
         refine ⟨fun w' hw' => ?_, hK _ ?_⟩
         · first
             | (go_at_call 85; exact hw'.call (I1 _))
             | (go_at_call 75; first | (with_reducible exact hw'.call (U _)) | (with_reducible exact hw'.call (V _)))
             | (rw [hw'.cell hx0c hx0a]; dsimp only [Result.andThen]; rw [hw'.cell hx0c hx0b]; exact ⟨rfl, rfl⟩)
             | (rw [hw'.cell hx1c hx1a]; dsimp only [Result.andThen]; rw [hw'.cell hx1c hx1b]; exact ⟨rfl, rfl⟩)
         clear hK K))
  refine wpQuiet_nil ?_
  intro w' hw'
  have hbwf := nx hb0 hw'
  replace hx0 := heap_keep hw' hx0
  replace hx1 := heap_keep hw' hx1
  replace hx2 := heap_keep hw' hx2
  clear hw' hb0
  clear hx0a hx0b hx0c hx0f hx0g
  obtain ⟨hx0a, hx0b, hx0c⟩ := two_facts hx0
  obtain ⟨hx0f, hx0g⟩ := two_frozen hx0
  clear hx1a hx1b hx1c hx1f hx1g
  obtain ⟨hx1a, hx1b, hx1c⟩ := two_facts hx1
  obtain ⟨hx1f, hx1g⟩ := two_frozen hx1
  clear hx2a hx2b hx2c hx2f hx2g
  obtain ⟨hx2a, hx2b, hx2c⟩ := two_facts hx2
  obtain ⟨hx2f, hx2g⟩ := two_frozen hx2
  go_wp2_with fail
  obtain ⟨q1, q2⟩ := two_cells (set_two (.string XX.1.str) (.string XX.2.str) hx2)
  refine bodyPost_ret (v := .agg #[.string XX.1.str, .string XX.2.str]) (by simp [q1, q2, results, Try.results48, go_sem]) rfl ⟨rfl, ?_⟩
  exact (hbwf.setCell (by show w.heap.size ≤ w.heap.size + 1 + 1; omega) _).setCell (by show w.heap.size ≤ w.heap.size + 1 + 1; omega) _

set_option maxRecDepth 100000 in
set_option maxHeartbeats 2000000 in
theorem specConjugatePair_any (a b c d : ByteArray) (w : World) (ha : a.size ≤ 9223372036854775806) (hb : b.size ≤ 9223372036854775806) (hc : c.size ≤ 9223372036854775806) (hd : d.size ≤ 9223372036854775806) :
    Calls Try.prog 14 #[.agg #[.string a, .string b], .agg #[.string c, .string d]] w (Gives (ansPr ((pairOf a b).bind fun p => (pairOf c d).bind fun q => limP (conP p q))) w) := by
  have hg := fun w => prGood_any a b w ha hb
  have hk := fun w => prGood_any c d w hc hd
  cases h : pairOf a b with
  | none =>
    rw [h] at hg
    clear h hk
    go_enter Try.func14, Try.ntmps14
    go_wp2_with fail
    have hb0 : Below w.heap.size w (((w.alloc (.cells #[.string a, .string b] 25 (0, 0))).alloc (.cells #[.string c, .string d] 25 (0, 0))).alloc (.cells #[.string ⟨#[]⟩, .string ⟨#[]⟩] 25 (0, 0))) := nxAlloc (nxAlloc (nxAlloc (Below.refl _ _) _) _) _
    have hx0 := heap_keep (nxAlloc (Below.refl _ _) (.cells #[.string ⟨#[]⟩, .string ⟨#[]⟩] 25 (0, 0))) (heap_keep (nxAlloc (Below.refl _ _) (.cells #[.string c, .string d] 25 (0, 0))) (heap_alloc_at w (.cells #[.string a, .string b] 25 (0, 0))))
    have hx1 := heap_keep (nxAlloc (Below.refl _ _) (.cells #[.string ⟨#[]⟩, .string ⟨#[]⟩] 25 (0, 0))) (heap_alloc_at (w.alloc (.cells #[.string a, .string b] 25 (0, 0))) (.cells #[.string c, .string d] 25 (0, 0)))
    have hx2 := heap_alloc_at ((w.alloc (.cells #[.string a, .string b] 25 (0, 0))).alloc (.cells #[.string c, .string d] 25 (0, 0))) (.cells #[.string ⟨#[]⟩, .string ⟨#[]⟩] 25 (0, 0))
    generalize (((w.alloc (.cells #[.string a, .string b] 25 (0, 0))).alloc (.cells #[.string c, .string d] 25 (0, 0))).alloc (.cells #[.string ⟨#[]⟩, .string ⟨#[]⟩] 25 (0, 0))) = w0 at *
    have e1 : (w.alloc (.cells #[.string a, .string b] 25 (0, 0))).heap.size = w.heap.size + 1 := by simp
    rw [e1] at hx1
    clear e1
    have e2 : ((w.alloc (.cells #[.string a, .string b] 25 (0, 0))).alloc (.cells #[.string c, .string d] 25 (0, 0))).heap.size = w.heap.size + 1 + 1 := by simp
    rw [e2] at hx2
    clear e2
    obtain ⟨hx0a, hx0b, hx0c⟩ := two_facts hx0
    obtain ⟨hx0f, hx0g⟩ := two_frozen hx0
    obtain ⟨hx1a, hx1b, hx1c⟩ := two_facts hx1
    obtain ⟨hx1f, hx1g⟩ := two_frozen hx1
    obtain ⟨hx2a, hx2b, hx2c⟩ := two_facts hx2
    obtain ⟨hx2f, hx2g⟩ := two_frozen hx2
    refine (hg _).mono ?_; rintro e w1 ⟨rfl, hb1⟩
    have hbw1 := nx hb0 hb1
    replace hx0 := heap_keep hb1 hx0
    replace hx1 := heap_keep hb1 hx1
    replace hx2 := heap_keep hb1 hx2
    clear hx0a hx0b hx0c hx0f hx0g
    obtain ⟨hx0a, hx0b, hx0c⟩ := two_facts hx0
    obtain ⟨hx0f, hx0g⟩ := two_frozen hx0
    clear hx1a hx1b hx1c hx1f hx1g
    obtain ⟨hx1a, hx1b, hx1c⟩ := two_facts hx1
    obtain ⟨hx1f, hx1g⟩ := two_frozen hx1
    clear hx2a hx2b hx2c hx2f hx2g
    obtain ⟨hx2a, hx2b, hx2c⟩ := two_facts hx2
    obtain ⟨hx2f, hx2g⟩ := two_frozen hx2
    clear hb1 hb0
    go_wp2_with fail
    obtain ⟨q1, q2⟩ := two_cells (set_two (.string ⟨#[]⟩) (.string ⟨#[]⟩) hx2)
    refine bodyPost_ret (v := .tuple #[.agg #[.string ⟨#[]⟩, .string ⟨#[]⟩], .bool false]) (by simp [q1, q2, results, Try.results14, go_sem]) rfl ⟨rfl, ?_⟩
    exact (hbw1.setCell (by show w.heap.size ≤ w.heap.size + 1 + 1; omega) _).setCell (by show w.heap.size ≤ w.heap.size + 1 + 1; omega) _
  | some p =>
    rw [h] at hg
    obtain ⟨rfl, rfl, hok1, hp1, hp2⟩ := pairOf_some h
    clear h
    cases k : pairOf c d with
    | none =>
      rw [k] at hk
      clear k
      go_enter Try.func14, Try.ntmps14
      go_wp2_with fail
      have hb0 : Below w.heap.size w (((w.alloc (.cells #[.string p.1.str, .string p.2.str] 25 (0, 0))).alloc (.cells #[.string c, .string d] 25 (0, 0))).alloc (.cells #[.string ⟨#[]⟩, .string ⟨#[]⟩] 25 (0, 0))) := nxAlloc (nxAlloc (nxAlloc (Below.refl _ _) _) _) _
      have hx0 := heap_keep (nxAlloc (Below.refl _ _) (.cells #[.string ⟨#[]⟩, .string ⟨#[]⟩] 25 (0, 0))) (heap_keep (nxAlloc (Below.refl _ _) (.cells #[.string c, .string d] 25 (0, 0))) (heap_alloc_at w (.cells #[.string p.1.str, .string p.2.str] 25 (0, 0))))
      have hx1 := heap_keep (nxAlloc (Below.refl _ _) (.cells #[.string ⟨#[]⟩, .string ⟨#[]⟩] 25 (0, 0))) (heap_alloc_at (w.alloc (.cells #[.string p.1.str, .string p.2.str] 25 (0, 0))) (.cells #[.string c, .string d] 25 (0, 0)))
      have hx2 := heap_alloc_at ((w.alloc (.cells #[.string p.1.str, .string p.2.str] 25 (0, 0))).alloc (.cells #[.string c, .string d] 25 (0, 0))) (.cells #[.string ⟨#[]⟩, .string ⟨#[]⟩] 25 (0, 0))
      generalize (((w.alloc (.cells #[.string p.1.str, .string p.2.str] 25 (0, 0))).alloc (.cells #[.string c, .string d] 25 (0, 0))).alloc (.cells #[.string ⟨#[]⟩, .string ⟨#[]⟩] 25 (0, 0))) = w0 at *
      have e1 : (w.alloc (.cells #[.string p.1.str, .string p.2.str] 25 (0, 0))).heap.size = w.heap.size + 1 := by simp
      rw [e1] at hx1
      clear e1
      have e2 : ((w.alloc (.cells #[.string p.1.str, .string p.2.str] 25 (0, 0))).alloc (.cells #[.string c, .string d] 25 (0, 0))).heap.size = w.heap.size + 1 + 1 := by simp
      rw [e2] at hx2
      clear e2
      obtain ⟨hx0a, hx0b, hx0c⟩ := two_facts hx0
      obtain ⟨hx0f, hx0g⟩ := two_frozen hx0
      obtain ⟨hx1a, hx1b, hx1c⟩ := two_facts hx1
      obtain ⟨hx1f, hx1g⟩ := two_frozen hx1
      obtain ⟨hx2a, hx2b, hx2c⟩ := two_facts hx2
      obtain ⟨hx2f, hx2g⟩ := two_frozen hx2
      refine (hg _).mono ?_; rintro e w1 ⟨rfl, hb1⟩
      have hbw1 := nx hb0 hb1
      replace hx0 := heap_keep hb1 hx0
      replace hx1 := heap_keep hb1 hx1
      replace hx2 := heap_keep hb1 hx2
      clear hx0a hx0b hx0c hx0f hx0g
      obtain ⟨hx0a, hx0b, hx0c⟩ := two_facts hx0
      obtain ⟨hx0f, hx0g⟩ := two_frozen hx0
      clear hx1a hx1b hx1c hx1f hx1g
      obtain ⟨hx1a, hx1b, hx1c⟩ := two_facts hx1
      obtain ⟨hx1f, hx1g⟩ := two_frozen hx1
      clear hx2a hx2b hx2c hx2f hx2g
      obtain ⟨hx2a, hx2b, hx2c⟩ := two_facts hx2
      obtain ⟨hx2f, hx2g⟩ := two_frozen hx2
      clear hb1 hb0
      go_wp2_with fail
      refine (hk _).mono ?_; rintro e w2 ⟨rfl, hb2⟩
      have hbw2 := nx hbw1 hb2
      replace hx0 := heap_keep hb2 hx0
      replace hx1 := heap_keep hb2 hx1
      replace hx2 := heap_keep hb2 hx2
      clear hx0a hx0b hx0c hx0f hx0g
      obtain ⟨hx0a, hx0b, hx0c⟩ := two_facts hx0
      obtain ⟨hx0f, hx0g⟩ := two_frozen hx0
      clear hx1a hx1b hx1c hx1f hx1g
      obtain ⟨hx1a, hx1b, hx1c⟩ := two_facts hx1
      obtain ⟨hx1f, hx1g⟩ := two_frozen hx1
      clear hx2a hx2b hx2c hx2f hx2g
      obtain ⟨hx2a, hx2b, hx2c⟩ := two_facts hx2
      obtain ⟨hx2f, hx2g⟩ := two_frozen hx2
      clear hb2 hbw1
      go_wp2_with fail
      obtain ⟨q1, q2⟩ := two_cells (set_two (.string ⟨#[]⟩) (.string ⟨#[]⟩) hx2)
      refine bodyPost_ret (v := .tuple #[.agg #[.string ⟨#[]⟩, .string ⟨#[]⟩], .bool false]) (by simp [q1, q2, results, Try.results14, go_sem]) rfl ⟨rfl, ?_⟩
      exact (hbw2.setCell (by show w.heap.size ≤ w.heap.size + 1 + 1; omega) _).setCell (by show w.heap.size ≤ w.heap.size + 1 + 1; omega) _
    | some q =>
      rw [k] at hk
      obtain ⟨rfl, rfl, hok2, hq1, hq2⟩ := pairOf_some k
      clear k
      show Calls _ _ _ _ (Gives (ansPr (limP (conP p q))) w)
      have hm := conP_ok hok1 hok2
      have hmc := conP_carets hok1 hok2
      have hC := fun w => cjBy_any p q w hok1 hok2 (by omega)
      have hL := fun w => prIf_any (conP p q) w hm (by omega)
      clear hm hmc
      generalize limP (conP p q) = o at *
      unfold ansPr at *
      generalize pS1 o = X at *
      generalize pS2 o = Y at *
      generalize o.isSome = ok at *
      generalize conP p q = C at *
      go_enter Try.func14, Try.ntmps14
      go_wp2_with fail
      have hb0 : Below w.heap.size w (((w.alloc (.cells #[.string p.1.str, .string p.2.str] 25 (0, 0))).alloc (.cells #[.string q.1.str, .string q.2.str] 25 (0, 0))).alloc (.cells #[.string ⟨#[]⟩, .string ⟨#[]⟩] 25 (0, 0))) := nxAlloc (nxAlloc (nxAlloc (Below.refl _ _) _) _) _
      have hx0 := heap_keep (nxAlloc (Below.refl _ _) (.cells #[.string ⟨#[]⟩, .string ⟨#[]⟩] 25 (0, 0))) (heap_keep (nxAlloc (Below.refl _ _) (.cells #[.string q.1.str, .string q.2.str] 25 (0, 0))) (heap_alloc_at w (.cells #[.string p.1.str, .string p.2.str] 25 (0, 0))))
      have hx1 := heap_keep (nxAlloc (Below.refl _ _) (.cells #[.string ⟨#[]⟩, .string ⟨#[]⟩] 25 (0, 0))) (heap_alloc_at (w.alloc (.cells #[.string p.1.str, .string p.2.str] 25 (0, 0))) (.cells #[.string q.1.str, .string q.2.str] 25 (0, 0)))
      have hx2 := heap_alloc_at ((w.alloc (.cells #[.string p.1.str, .string p.2.str] 25 (0, 0))).alloc (.cells #[.string q.1.str, .string q.2.str] 25 (0, 0))) (.cells #[.string ⟨#[]⟩, .string ⟨#[]⟩] 25 (0, 0))
      generalize (((w.alloc (.cells #[.string p.1.str, .string p.2.str] 25 (0, 0))).alloc (.cells #[.string q.1.str, .string q.2.str] 25 (0, 0))).alloc (.cells #[.string ⟨#[]⟩, .string ⟨#[]⟩] 25 (0, 0))) = w0 at *
      have e1 : (w.alloc (.cells #[.string p.1.str, .string p.2.str] 25 (0, 0))).heap.size = w.heap.size + 1 := by simp
      rw [e1] at hx1
      clear e1
      have e2 : ((w.alloc (.cells #[.string p.1.str, .string p.2.str] 25 (0, 0))).alloc (.cells #[.string q.1.str, .string q.2.str] 25 (0, 0))).heap.size = w.heap.size + 1 + 1 := by simp
      rw [e2] at hx2
      clear e2
      obtain ⟨hx0a, hx0b, hx0c⟩ := two_facts hx0
      obtain ⟨hx0f, hx0g⟩ := two_frozen hx0
      obtain ⟨hx1a, hx1b, hx1c⟩ := two_facts hx1
      obtain ⟨hx1f, hx1g⟩ := two_frozen hx1
      obtain ⟨hx2a, hx2b, hx2c⟩ := two_facts hx2
      obtain ⟨hx2f, hx2g⟩ := two_frozen hx2
      refine (hg _).mono ?_; rintro e w1 ⟨rfl, hb1⟩
      have hbw1 := nx hb0 hb1
      replace hx0 := heap_keep hb1 hx0
      replace hx1 := heap_keep hb1 hx1
      replace hx2 := heap_keep hb1 hx2
      clear hx0a hx0b hx0c hx0f hx0g
      obtain ⟨hx0a, hx0b, hx0c⟩ := two_facts hx0
      obtain ⟨hx0f, hx0g⟩ := two_frozen hx0
      clear hx1a hx1b hx1c hx1f hx1g
      obtain ⟨hx1a, hx1b, hx1c⟩ := two_facts hx1
      obtain ⟨hx1f, hx1g⟩ := two_frozen hx1
      clear hx2a hx2b hx2c hx2f hx2g
      obtain ⟨hx2a, hx2b, hx2c⟩ := two_facts hx2
      obtain ⟨hx2f, hx2g⟩ := two_frozen hx2
      clear hb1 hb0
      go_wp2_with fail
      refine (hk _).mono ?_; rintro e w2 ⟨rfl, hb2⟩
      have hbw2 := nx hbw1 hb2
      replace hx0 := heap_keep hb2 hx0
      replace hx1 := heap_keep hb2 hx1
      replace hx2 := heap_keep hb2 hx2
      clear hx0a hx0b hx0c hx0f hx0g
      obtain ⟨hx0a, hx0b, hx0c⟩ := two_facts hx0
      obtain ⟨hx0f, hx0g⟩ := two_frozen hx0
      clear hx1a hx1b hx1c hx1f hx1g
      obtain ⟨hx1a, hx1b, hx1c⟩ := two_facts hx1
      obtain ⟨hx1f, hx1g⟩ := two_frozen hx1
      clear hx2a hx2b hx2c hx2f hx2g
      obtain ⟨hx2a, hx2b, hx2c⟩ := two_facts hx2
      obtain ⟨hx2f, hx2g⟩ := two_frozen hx2
      clear hb2 hbw1
      go_wp2_with fail
      refine (hC _).mono ?_; rintro e w3 ⟨rfl, hb3⟩
      have hbw3 := nx hbw2 hb3
      replace hx0 := heap_keep hb3 hx0
      replace hx1 := heap_keep hb3 hx1
      replace hx2 := heap_keep hb3 hx2
      clear hx0a hx0b hx0c hx0f hx0g
      obtain ⟨hx0a, hx0b, hx0c⟩ := two_facts hx0
      obtain ⟨hx0f, hx0g⟩ := two_frozen hx0
      clear hx1a hx1b hx1c hx1f hx1g
      obtain ⟨hx1a, hx1b, hx1c⟩ := two_facts hx1
      obtain ⟨hx1f, hx1g⟩ := two_frozen hx1
      clear hx2a hx2b hx2c hx2f hx2g
      obtain ⟨hx2a, hx2b, hx2c⟩ := two_facts hx2
      obtain ⟨hx2f, hx2g⟩ := two_frozen hx2
      clear hb3 hbw2
      go_wp2_with fail
      refine (hL _).mono ?_; rintro e w4 ⟨rfl, hb4⟩
      have hbw4 := nx hbw3 hb4
      replace hx0 := heap_keep hb4 hx0
      replace hx1 := heap_keep hb4 hx1
      replace hx2 := heap_keep hb4 hx2
      clear hx0a hx0b hx0c hx0f hx0g
      obtain ⟨hx0a, hx0b, hx0c⟩ := two_facts hx0
      obtain ⟨hx0f, hx0g⟩ := two_frozen hx0
      clear hx1a hx1b hx1c hx1f hx1g
      obtain ⟨hx1a, hx1b, hx1c⟩ := two_facts hx1
      obtain ⟨hx1f, hx1g⟩ := two_frozen hx1
      clear hx2a hx2b hx2c hx2f hx2g
      obtain ⟨hx2a, hx2b, hx2c⟩ := two_facts hx2
      obtain ⟨hx2f, hx2g⟩ := two_frozen hx2
      clear hb4 hbw3
      go_wp2_with fail
      obtain ⟨q1, q2⟩ := two_cells (set_two (.string X) (.string Y) hx2)
      refine bodyPost_ret (v := .tuple #[.agg #[.string X, .string Y], .bool ok]) (by simp [q1, q2, results, Try.results14, go_sem]) rfl ⟨rfl, ?_⟩
      exact (hbw4.setCell (by show w.heap.size ≤ w.heap.size + 1 + 1; omega) _).setCell (by show w.heap.size ≤ w.heap.size + 1 + 1; omega) _

set_option maxRecDepth 100000 in
set_option maxHeartbeats 2000000 in
theorem implConjugatePair_any (a b c d : ByteArray) (w : World) (ha : a.size ≤ 9223372036854775806) (hb : b.size ≤ 9223372036854775806) (hc : c.size ≤ 9223372036854775806) (hd : d.size ≤ 9223372036854775806) :
    Calls Try.prog 16 #[.agg #[.string a, .string b], .agg #[.string c, .string d]] w (Gives (ansPr ((pairOf a b).bind fun p => (pairOf c d).bind fun q => limP (conP p q))) w) := by
  have hg := fun w => isPair_any a b w ha hb
  have hk := fun w => isPair_any c d w hc hd
  cases h : pairOf a b with
  | none =>
    rw [h] at hg
    clear h hk
    go_enter Try.func16, Try.ntmps16
    go_wp2_with fail
    have hb0 : Below w.heap.size w (((w.alloc (.cells #[.string a, .string b] 25 (0, 0))).alloc (.cells #[.string c, .string d] 25 (0, 0))).alloc (.cells #[.string ⟨#[]⟩, .string ⟨#[]⟩] 25 (0, 0))) := nxAlloc (nxAlloc (nxAlloc (Below.refl _ _) _) _) _
    have hx0 := heap_keep (nxAlloc (Below.refl _ _) (.cells #[.string ⟨#[]⟩, .string ⟨#[]⟩] 25 (0, 0))) (heap_keep (nxAlloc (Below.refl _ _) (.cells #[.string c, .string d] 25 (0, 0))) (heap_alloc_at w (.cells #[.string a, .string b] 25 (0, 0))))
    have hx1 := heap_keep (nxAlloc (Below.refl _ _) (.cells #[.string ⟨#[]⟩, .string ⟨#[]⟩] 25 (0, 0))) (heap_alloc_at (w.alloc (.cells #[.string a, .string b] 25 (0, 0))) (.cells #[.string c, .string d] 25 (0, 0)))
    have hx2 := heap_alloc_at ((w.alloc (.cells #[.string a, .string b] 25 (0, 0))).alloc (.cells #[.string c, .string d] 25 (0, 0))) (.cells #[.string ⟨#[]⟩, .string ⟨#[]⟩] 25 (0, 0))
    generalize (((w.alloc (.cells #[.string a, .string b] 25 (0, 0))).alloc (.cells #[.string c, .string d] 25 (0, 0))).alloc (.cells #[.string ⟨#[]⟩, .string ⟨#[]⟩] 25 (0, 0))) = w0 at *
    have e1 : (w.alloc (.cells #[.string a, .string b] 25 (0, 0))).heap.size = w.heap.size + 1 := by simp
    rw [e1] at hx1
    clear e1
    have e2 : ((w.alloc (.cells #[.string a, .string b] 25 (0, 0))).alloc (.cells #[.string c, .string d] 25 (0, 0))).heap.size = w.heap.size + 1 + 1 := by simp
    rw [e2] at hx2
    clear e2
    obtain ⟨hx0a, hx0b, hx0c⟩ := two_facts hx0
    obtain ⟨hx0f, hx0g⟩ := two_frozen hx0
    obtain ⟨hx1a, hx1b, hx1c⟩ := two_facts hx1
    obtain ⟨hx1f, hx1g⟩ := two_frozen hx1
    obtain ⟨hx2a, hx2b, hx2c⟩ := two_facts hx2
    obtain ⟨hx2f, hx2g⟩ := two_frozen hx2
    refine (hg _).mono ?_; rintro e w1 ⟨rfl, hb1⟩
    have hbw1 := nx hb0 hb1
    replace hx0 := heap_keep hb1 hx0
    replace hx1 := heap_keep hb1 hx1
    replace hx2 := heap_keep hb1 hx2
    clear hx0a hx0b hx0c hx0f hx0g
    obtain ⟨hx0a, hx0b, hx0c⟩ := two_facts hx0
    obtain ⟨hx0f, hx0g⟩ := two_frozen hx0
    clear hx1a hx1b hx1c hx1f hx1g
    obtain ⟨hx1a, hx1b, hx1c⟩ := two_facts hx1
    obtain ⟨hx1f, hx1g⟩ := two_frozen hx1
    clear hx2a hx2b hx2c hx2f hx2g
    obtain ⟨hx2a, hx2b, hx2c⟩ := two_facts hx2
    obtain ⟨hx2f, hx2g⟩ := two_frozen hx2
    clear hb1 hb0
    go_wp2_with fail
    obtain ⟨q1, q2⟩ := two_cells (set_two (.string ⟨#[]⟩) (.string ⟨#[]⟩) hx2)
    refine bodyPost_ret (v := .tuple #[.agg #[.string ⟨#[]⟩, .string ⟨#[]⟩], .bool false]) (by simp [q1, q2, results, Try.results16, go_sem]) rfl ⟨rfl, ?_⟩
    exact (hbw1.setCell (by show w.heap.size ≤ w.heap.size + 1 + 1; omega) _).setCell (by show w.heap.size ≤ w.heap.size + 1 + 1; omega) _
  | some p =>
    rw [h] at hg
    obtain ⟨rfl, rfl, hok1, hp1, hp2⟩ := pairOf_some h
    clear h
    cases k : pairOf c d with
    | none =>
      rw [k] at hk
      clear k
      go_enter Try.func16, Try.ntmps16
      go_wp2_with fail
      have hb0 : Below w.heap.size w (((w.alloc (.cells #[.string p.1.str, .string p.2.str] 25 (0, 0))).alloc (.cells #[.string c, .string d] 25 (0, 0))).alloc (.cells #[.string ⟨#[]⟩, .string ⟨#[]⟩] 25 (0, 0))) := nxAlloc (nxAlloc (nxAlloc (Below.refl _ _) _) _) _
      have hx0 := heap_keep (nxAlloc (Below.refl _ _) (.cells #[.string ⟨#[]⟩, .string ⟨#[]⟩] 25 (0, 0))) (heap_keep (nxAlloc (Below.refl _ _) (.cells #[.string c, .string d] 25 (0, 0))) (heap_alloc_at w (.cells #[.string p.1.str, .string p.2.str] 25 (0, 0))))
      have hx1 := heap_keep (nxAlloc (Below.refl _ _) (.cells #[.string ⟨#[]⟩, .string ⟨#[]⟩] 25 (0, 0))) (heap_alloc_at (w.alloc (.cells #[.string p.1.str, .string p.2.str] 25 (0, 0))) (.cells #[.string c, .string d] 25 (0, 0)))
      have hx2 := heap_alloc_at ((w.alloc (.cells #[.string p.1.str, .string p.2.str] 25 (0, 0))).alloc (.cells #[.string c, .string d] 25 (0, 0))) (.cells #[.string ⟨#[]⟩, .string ⟨#[]⟩] 25 (0, 0))
      generalize (((w.alloc (.cells #[.string p.1.str, .string p.2.str] 25 (0, 0))).alloc (.cells #[.string c, .string d] 25 (0, 0))).alloc (.cells #[.string ⟨#[]⟩, .string ⟨#[]⟩] 25 (0, 0))) = w0 at *
      have e1 : (w.alloc (.cells #[.string p.1.str, .string p.2.str] 25 (0, 0))).heap.size = w.heap.size + 1 := by simp
      rw [e1] at hx1
      clear e1
      have e2 : ((w.alloc (.cells #[.string p.1.str, .string p.2.str] 25 (0, 0))).alloc (.cells #[.string c, .string d] 25 (0, 0))).heap.size = w.heap.size + 1 + 1 := by simp
      rw [e2] at hx2
      clear e2
      obtain ⟨hx0a, hx0b, hx0c⟩ := two_facts hx0
      obtain ⟨hx0f, hx0g⟩ := two_frozen hx0
      obtain ⟨hx1a, hx1b, hx1c⟩ := two_facts hx1
      obtain ⟨hx1f, hx1g⟩ := two_frozen hx1
      obtain ⟨hx2a, hx2b, hx2c⟩ := two_facts hx2
      obtain ⟨hx2f, hx2g⟩ := two_frozen hx2
      refine (hg _).mono ?_; rintro e w1 ⟨rfl, hb1⟩
      have hbw1 := nx hb0 hb1
      replace hx0 := heap_keep hb1 hx0
      replace hx1 := heap_keep hb1 hx1
      replace hx2 := heap_keep hb1 hx2
      clear hx0a hx0b hx0c hx0f hx0g
      obtain ⟨hx0a, hx0b, hx0c⟩ := two_facts hx0
      obtain ⟨hx0f, hx0g⟩ := two_frozen hx0
      clear hx1a hx1b hx1c hx1f hx1g
      obtain ⟨hx1a, hx1b, hx1c⟩ := two_facts hx1
      obtain ⟨hx1f, hx1g⟩ := two_frozen hx1
      clear hx2a hx2b hx2c hx2f hx2g
      obtain ⟨hx2a, hx2b, hx2c⟩ := two_facts hx2
      obtain ⟨hx2f, hx2g⟩ := two_frozen hx2
      clear hb1 hb0
      go_wp2_with fail
      refine (hk _).mono ?_; rintro e w2 ⟨rfl, hb2⟩
      have hbw2 := nx hbw1 hb2
      replace hx0 := heap_keep hb2 hx0
      replace hx1 := heap_keep hb2 hx1
      replace hx2 := heap_keep hb2 hx2
      clear hx0a hx0b hx0c hx0f hx0g
      obtain ⟨hx0a, hx0b, hx0c⟩ := two_facts hx0
      obtain ⟨hx0f, hx0g⟩ := two_frozen hx0
      clear hx1a hx1b hx1c hx1f hx1g
      obtain ⟨hx1a, hx1b, hx1c⟩ := two_facts hx1
      obtain ⟨hx1f, hx1g⟩ := two_frozen hx1
      clear hx2a hx2b hx2c hx2f hx2g
      obtain ⟨hx2a, hx2b, hx2c⟩ := two_facts hx2
      obtain ⟨hx2f, hx2g⟩ := two_frozen hx2
      clear hb2 hbw1
      go_wp2_with fail
      obtain ⟨q1, q2⟩ := two_cells (set_two (.string ⟨#[]⟩) (.string ⟨#[]⟩) hx2)
      refine bodyPost_ret (v := .tuple #[.agg #[.string ⟨#[]⟩, .string ⟨#[]⟩], .bool false]) (by simp [q1, q2, results, Try.results16, go_sem]) rfl ⟨rfl, ?_⟩
      exact (hbw2.setCell (by show w.heap.size ≤ w.heap.size + 1 + 1; omega) _).setCell (by show w.heap.size ≤ w.heap.size + 1 + 1; omega) _
    | some q =>
      rw [k] at hk
      obtain ⟨rfl, rfl, hok2, hq1, hq2⟩ := pairOf_some k
      clear k
      show Calls _ _ _ _ (Gives (ansPr (limP (conP p q))) w)
      have hm := conP_ok hok1 hok2
      have hmc := conP_carets hok1 hok2
      have hC := fun w => conjugated_any p q w hok1 hok2 (by omega)
      have hL := fun w => pairLimit_any (conP p q) w
      clear hm hmc
      generalize limP (conP p q) = o at *
      unfold ansPr at *
      generalize pS1 o = X at *
      generalize pS2 o = Y at *
      generalize o.isSome = ok at *
      generalize conP p q = C at *
      go_enter Try.func16, Try.ntmps16
      go_wp2_with fail
      have hb0 : Below w.heap.size w (((w.alloc (.cells #[.string p.1.str, .string p.2.str] 25 (0, 0))).alloc (.cells #[.string q.1.str, .string q.2.str] 25 (0, 0))).alloc (.cells #[.string ⟨#[]⟩, .string ⟨#[]⟩] 25 (0, 0))) := nxAlloc (nxAlloc (nxAlloc (Below.refl _ _) _) _) _
      have hx0 := heap_keep (nxAlloc (Below.refl _ _) (.cells #[.string ⟨#[]⟩, .string ⟨#[]⟩] 25 (0, 0))) (heap_keep (nxAlloc (Below.refl _ _) (.cells #[.string q.1.str, .string q.2.str] 25 (0, 0))) (heap_alloc_at w (.cells #[.string p.1.str, .string p.2.str] 25 (0, 0))))
      have hx1 := heap_keep (nxAlloc (Below.refl _ _) (.cells #[.string ⟨#[]⟩, .string ⟨#[]⟩] 25 (0, 0))) (heap_alloc_at (w.alloc (.cells #[.string p.1.str, .string p.2.str] 25 (0, 0))) (.cells #[.string q.1.str, .string q.2.str] 25 (0, 0)))
      have hx2 := heap_alloc_at ((w.alloc (.cells #[.string p.1.str, .string p.2.str] 25 (0, 0))).alloc (.cells #[.string q.1.str, .string q.2.str] 25 (0, 0))) (.cells #[.string ⟨#[]⟩, .string ⟨#[]⟩] 25 (0, 0))
      generalize (((w.alloc (.cells #[.string p.1.str, .string p.2.str] 25 (0, 0))).alloc (.cells #[.string q.1.str, .string q.2.str] 25 (0, 0))).alloc (.cells #[.string ⟨#[]⟩, .string ⟨#[]⟩] 25 (0, 0))) = w0 at *
      have e1 : (w.alloc (.cells #[.string p.1.str, .string p.2.str] 25 (0, 0))).heap.size = w.heap.size + 1 := by simp
      rw [e1] at hx1
      clear e1
      have e2 : ((w.alloc (.cells #[.string p.1.str, .string p.2.str] 25 (0, 0))).alloc (.cells #[.string q.1.str, .string q.2.str] 25 (0, 0))).heap.size = w.heap.size + 1 + 1 := by simp
      rw [e2] at hx2
      clear e2
      obtain ⟨hx0a, hx0b, hx0c⟩ := two_facts hx0
      obtain ⟨hx0f, hx0g⟩ := two_frozen hx0
      obtain ⟨hx1a, hx1b, hx1c⟩ := two_facts hx1
      obtain ⟨hx1f, hx1g⟩ := two_frozen hx1
      obtain ⟨hx2a, hx2b, hx2c⟩ := two_facts hx2
      obtain ⟨hx2f, hx2g⟩ := two_frozen hx2
      refine (hg _).mono ?_; rintro e w1 ⟨rfl, hb1⟩
      have hbw1 := nx hb0 hb1
      replace hx0 := heap_keep hb1 hx0
      replace hx1 := heap_keep hb1 hx1
      replace hx2 := heap_keep hb1 hx2
      clear hx0a hx0b hx0c hx0f hx0g
      obtain ⟨hx0a, hx0b, hx0c⟩ := two_facts hx0
      obtain ⟨hx0f, hx0g⟩ := two_frozen hx0
      clear hx1a hx1b hx1c hx1f hx1g
      obtain ⟨hx1a, hx1b, hx1c⟩ := two_facts hx1
      obtain ⟨hx1f, hx1g⟩ := two_frozen hx1
      clear hx2a hx2b hx2c hx2f hx2g
      obtain ⟨hx2a, hx2b, hx2c⟩ := two_facts hx2
      obtain ⟨hx2f, hx2g⟩ := two_frozen hx2
      clear hb1 hb0
      go_wp2_with fail
      refine (hk _).mono ?_; rintro e w2 ⟨rfl, hb2⟩
      have hbw2 := nx hbw1 hb2
      replace hx0 := heap_keep hb2 hx0
      replace hx1 := heap_keep hb2 hx1
      replace hx2 := heap_keep hb2 hx2
      clear hx0a hx0b hx0c hx0f hx0g
      obtain ⟨hx0a, hx0b, hx0c⟩ := two_facts hx0
      obtain ⟨hx0f, hx0g⟩ := two_frozen hx0
      clear hx1a hx1b hx1c hx1f hx1g
      obtain ⟨hx1a, hx1b, hx1c⟩ := two_facts hx1
      obtain ⟨hx1f, hx1g⟩ := two_frozen hx1
      clear hx2a hx2b hx2c hx2f hx2g
      obtain ⟨hx2a, hx2b, hx2c⟩ := two_facts hx2
      obtain ⟨hx2f, hx2g⟩ := two_frozen hx2
      clear hb2 hbw1
      go_wp2_with fail
      refine (hC _).mono ?_; rintro e w3 ⟨rfl, hb3⟩
      have hbw3 := nx hbw2 hb3
      replace hx0 := heap_keep hb3 hx0
      replace hx1 := heap_keep hb3 hx1
      replace hx2 := heap_keep hb3 hx2
      clear hx0a hx0b hx0c hx0f hx0g
      obtain ⟨hx0a, hx0b, hx0c⟩ := two_facts hx0
      obtain ⟨hx0f, hx0g⟩ := two_frozen hx0
      clear hx1a hx1b hx1c hx1f hx1g
      obtain ⟨hx1a, hx1b, hx1c⟩ := two_facts hx1
      obtain ⟨hx1f, hx1g⟩ := two_frozen hx1
      clear hx2a hx2b hx2c hx2f hx2g
      obtain ⟨hx2a, hx2b, hx2c⟩ := two_facts hx2
      obtain ⟨hx2f, hx2g⟩ := two_frozen hx2
      clear hb3 hbw2
      go_wp2_with fail
      refine (hL _).mono ?_; rintro e w4 ⟨rfl, hb4⟩
      have hbw4 := nx hbw3 hb4
      replace hx0 := heap_keep hb4 hx0
      replace hx1 := heap_keep hb4 hx1
      replace hx2 := heap_keep hb4 hx2
      clear hx0a hx0b hx0c hx0f hx0g
      obtain ⟨hx0a, hx0b, hx0c⟩ := two_facts hx0
      obtain ⟨hx0f, hx0g⟩ := two_frozen hx0
      clear hx1a hx1b hx1c hx1f hx1g
      obtain ⟨hx1a, hx1b, hx1c⟩ := two_facts hx1
      obtain ⟨hx1f, hx1g⟩ := two_frozen hx1
      clear hx2a hx2b hx2c hx2f hx2g
      obtain ⟨hx2a, hx2b, hx2c⟩ := two_facts hx2
      obtain ⟨hx2f, hx2g⟩ := two_frozen hx2
      clear hb4 hbw3
      go_wp2_with fail
      obtain ⟨q1, q2⟩ := two_cells (set_two (.string X) (.string Y) hx2)
      refine bodyPost_ret (v := .tuple #[.agg #[.string X, .string Y], .bool ok]) (by simp [q1, q2, results, Try.results16, go_sem]) rfl ⟨rfl, ?_⟩
      exact (hbw4.setCell (by show w.heap.size ≤ w.heap.size + 1 + 1; omega) _).setCell (by show w.heap.size ≤ w.heap.size + 1 + 1; omega) _
end Go.Proofs.Ytkpganpojdboeaa

/-! WdP -/
namespace Go.Proofs.Ytkpganpojdboeaa

/-- A letter with a number less than m. -/
def okL (m : Int) (x : Int) : Bool := !(x == 0) && (decide (-m ≤ x) && decide (x ≤ m))
theorem okL_iff {m x : Int} : okL m x = true ↔ x ≠ 0 ∧ -m ≤ x ∧ x ≤ m := by simp [okL]
theorem okL_false {m x : Int} : okL m x = false ↔ x = 0 ∨ x < -m ∨ m < x := by
  rw [Bool.eq_false_iff, Ne, okL_iff]; omega
def isW (m : Int) (w : List Int) : Bool := w.all (okL m)
/-- Is it a word? -/
def goodW (w : List Int) : Bool := decide (w.length ≤ 20) && isW 21 w
theorem goodW_iff {w : List Int} : goodW w = true ↔ w.length ≤ 20 ∧ ∀ x ∈ w, x ≠ 0 ∧ -21 ≤ x ∧ x ≤ 21 := by
  simp only [goodW, isW, Bool.and_eq_true, decide_eq_true_eq, List.all_eq_true, okL_iff]
theorem isW_drop {m : Int} {w : List Int} {k : Nat} (h : k < w.length) : isW m (w.drop k) = (okL m (w.getD k 0) && isW m (w.drop (k + 1))) := by
  unfold isW; rw [List.drop_eq_getElem_cons h, List.all_cons]; simp [h]
theorem isW_end (m : Int) (w : List Int) : isW m (w.drop w.length) = true := by simp [isW]

/-- The word of all inverses, backwards. -/
def invW (w : List Int) : List Int := (w.map fun x => -x).reverse
theorem invW_length (w : List Int) : (invW w).length = w.length := by simp [invW]

/-- One letter more behind a word without letters and inverses next to each other. -/
def free1 (out : List Int) (x : Int) : List Int := if out.getLast? = some (-x) then out.dropLast else out ++ [x]
def freeW (w : List Int) : List Int := w.foldl free1 []
theorem free1_length (out : List Int) (x : Int) : (free1 out x).length ≤ out.length + 1 := by
  unfold free1; split <;> simp; omega
theorem freeW_take {w : List Int} {k : Nat} (h : k < w.length) : freeW (w.take (k + 1)) = free1 (freeW (w.take k)) (w.getD k 0) := by
  unfold freeW
  rw [List.take_succ_eq_append_getElem h, List.foldl_append]
  simp [h]
theorem freeW_length (w : List Int) : (freeW w).length ≤ w.length := by
  have : ∀ (l a : List Int), (l.foldl free1 a).length ≤ a.length + l.length := by
    intro l
    induction l with
    | nil => intro a; simp
    | cons x l ih => intro a; have := ih (free1 a x); have := free1_length a x; simp only [List.foldl_cons, List.length_cons]; omega
  have := this w []
  simpa [freeW] using this
theorem free1_last {out : List Int} {x : Int} (h : 0 < out.length) : free1 out x = if out.getD (out.length - 1) 0 = -x then out.take (out.length - 1) else out ++ [x] := by
  unfold free1
  rw [List.getLast?_eq_getElem?, List.getElem?_eq_getElem (by omega)]
  have : out.getD (out.length - 1) 0 = out[out.length - 1]'(by omega) := by simp [List.getD_eq_getElem?_getD, List.getElem?_eq_getElem (show out.length - 1 < out.length by omega)]
  rw [this, List.dropLast_eq_take]
  simp

/-- What two letters next to each other become. -/
def ruleO (x y : Int) : Option (List Int) :=
  if x = -y then some []
  else if 0 < x ∧ 0 < y ∧ y < x then some [y, x + 1]
  else if x < 0 ∧ y < 0 ∧ -x < -y then some [y - 1, x]
  else if x < 0 ∧ 0 < y ∧ -x < y then some [y + 1, x]
  else if x < 0 ∧ 0 < y ∧ y < -x then some [y, x - 1]
  else none
/-- A word behind the first rule. -/
def stepO : List Int → Option (List Int)
  | x :: y :: r => match ruleO x y with
    | some b => some (b ++ r)
    | none => (stepO (y :: r)).map (x :: ·)
  | _ => none

/-- Letters with numbers that are greater by so much. -/
def up (k : Int) (x : Int) : Int := if x < 0 then x - k else x + k
def upW (k : Int) (w : List Int) : List Int := w.map (up k)

/-- A word, if it is one. -/
def ifW (w : List Int) : Option (List Int) := if goodW w = true then some w else none

/-- The sums of a word: of x(0), of all others. -/
def sgn (x : Int) : Int := if x < 0 then -1 else 1
def num (x : Int) : Int := (if x < 0 then -x else x) - 1
def sumZ (w : List Int) : Int := (w.map fun x => if num x = 0 then sgn x else 0).sum
def sumO (w : List Int) : Int := (w.map fun x => if num x = 0 then 0 else sgn x).sum

end Go.Proofs.Ytkpganpojdboeaa

/-! ArgI -/
namespace Go.Proofs.Ytkpganpojdboeaa
open Go.RowKit

/-- A slice of integers that came in: it is nil, or leads to a row of 'cap' cells, the first 'len' of which are its elements. -/
def IsInts (w : World) (a : Option Addr) (len cap : Nat) (ss : List Int) : Prop :=
  (a = none ∧ len = 0 ∧ cap = 0 ∧ ss = []) ∨
  ∃ x, a = some x ∧ len ≤ cap ∧ cap ≤ maxLen ∧ ss.length = cap ∧ (∀ i, i < ss.length → w.cell? (x.add i) = some (.int .i64 (ss.getD i 0))) ∧ ∀ s ∈ ss, (Lit.int .i64 s).wf = true

/-- What can be read of a slice of integers: the cells from an address on. -/
def ReadI (w : World) (g off : Nat) (ss : List Int) : Prop := ∀ i, i < ss.length → w.cell? ⟨g, off + i, none⟩ = some (.int .i64 (ss.getD i 0))

theorem ReadI.keep {w w' : World} {g off : Nat} {ss : List Int} (h : ReadI w g off ss) (hb : Below w.heap.size w w') : ReadI w' g off ss := by
  intro i hi
  have := h i hi
  exact (hb.cell (p := ⟨g, off + i, none⟩) (World.block_lt_of_cell? w _ this)).trans this

/-- The slice as the walks take it: empty, or readable from an address on. -/
def InI (w : World) (a : Option Addr) (ss : List Int) : Prop := ss = [] ∨ ∃ g off, a = some ⟨g, off, none⟩ ∧ ReadI w g off ss

theorem IsInts.inI {w : World} {a : Option Addr} {len cap : Nat} {ss : List Int} (h : IsInts w a len cap ss) : InI w a (ss.take len) ∧ (ss.take len).length = len ∧ (len : Int) ≤ 9223372036854775807 ∧ ∀ s ∈ ss.take len, -9223372036854775808 ≤ s ∧ s ≤ 9223372036854775807 := by
  rcases h with ⟨rfl, rfl, rfl, rfl⟩ | ⟨x, rfl, h1, h2, h3, h4, h5⟩
  · exact ⟨.inl rfl, rfl, by omega, by simp⟩
  · have hl : (ss.take len).length = len := by rw [List.length_take]; omega
    unfold maxLen at h2
    refine ⟨?_, hl, by omega, fun s hs => i64_bounds (h5 s (List.mem_of_mem_take hs))⟩
    by_cases h0 : len = 0
    · left; subst h0; rfl
    · right
      obtain ⟨b, off, spot⟩ := x
      have hc := h4 0 (by omega)
      have hspot : spot = none := by simpa [Addr.add] using World.cell?_spot hc
      subst hspot
      refine ⟨b, off, rfl, fun i hi => ?_⟩
      rw [hl] at hi
      have := h4 i (by omega)
      have e : (⟨b, off, none⟩ : Addr).add i = ⟨b, off + i, none⟩ := by
        unfold Addr.add
        split
        · next h => rw [h]; simp
        · rfl
      rw [e] at this
      rw [this]
      simp [List.getD_eq_getElem?_getD, hi]

theorem InI.keep {w w' : World} {a : Option Addr} {ss : List Int} (h : InI w a ss) (hb : Below w.heap.size w w') : InI w' a ss := by
  rcases h with h | ⟨g, off, rfl, hr⟩
  · exact .inl h
  · exact .inr ⟨g, off, rfl, hr.keep hb⟩

/-- A call that hands back a copy, in new memory. -/
def CopyOfI (ss : List Int) (n : Nat) (w : World) (e : Ending) (w' : World) : Prop :=
  ∃ g : Nat, OwnI w.heap.size w' (.slice (some ⟨g, 0, none⟩) n n) ss ∧ Below w.heap.size w w' ∧ e = .returned (.slice (some ⟨g, 0, none⟩) n n)

theorem madeCells_int (n : Nat) : (madeCells (Value.int .i64 0).cells (n * 1)).toList = (List.replicate n (0 : Int)).map (Value.int .i64) := by
  rw [List.map_replicate, Nat.mul_one]
  exact toList_madeCells_one _ _

set_option maxHeartbeats 1000000 in
theorem toIntS_any (a : Option Addr) (cap n : Nat) (ss : List Int) (w : World) (hn : ss.length = n) (hn1 : n ≤ 1048576) (h : InI w a ss) :
    Calls Try.prog 41 #[.slice a n cap] w (CopyOfI ss n w) := by
  obtain ⟨i0, hi, hz0, hz1, hz2⟩ := info_parts info_int
  have HN := Lib.hid hn
  have HI := Lib.hid h
  clear hn h
  go_enter Try.func41, Try.ntmps41
  go_wp2_with (at_make; refine wpList_make_full _ rfl _ _ 31 rfl w.heap.size 3 i0 (.int .i64 0) 1 Try.underlying31 hi hz0 hz1 .i64 .i64 _ _ n rfl rfl rfl rfl (by rw [hz2]; omega) (by unfold maxLen; omega) (Nat.le_refl _) ?_; intro w0 hown0 hgrow0)
  rw [madeCells_int] at hown0
  have hb0 : Below w.heap.size w w0 := (Below.refl _ _).grown hgrow0 (Nat.le_refl _) (fun k hk => by cases hk)
  have hO : OwnI w.heap.size w0 (.slice (some ⟨w.heap.size, 0, none⟩) n n) (List.replicate n (0 : Int)) := by
    unfold OwnI; rw [List.length_replicate]; exact hown0
  have HO := Lib.hid hO
  clear hown0 hgrow0 hO
  go_wp2_with fail
  go_loopw [4] (fun i wr => ∃ k : Nat, k ≤ n ∧ i = .int .i64 k ∧ Hid (OwnI w.heap.size wr (.slice (some ⟨w.heap.size, 0, none⟩) n n) (ss.take k ++ List.replicate (n - k) (0 : Int))) ∧ Below w.heap.size w wr) (fun i _ => n - (intOf i).toNat)
  case atStart => exact ⟨0, Nat.zero_le _, rfl, HO, hb0⟩
  case round =>
    obtain ⟨k, hk, rfl, hown, hbw⟩ := hrel
    have hlen : (ss.take k ++ List.replicate (n - k) (0 : Int)).length = n := by have := HN.out; simp; omega
    by_cases hlt : k < n
    · have hlt' : (k : Int) < (n : Int) := by omega
      have hlk : k < ss.length := by have := HN.out; omega
      rcases HI.out with h0 | ⟨g, off, ha, hr⟩
      · exfalso; rw [h0] at hlk; simp at hlk
      · have c1 := (hr.keep hbw) k hlk
        have hset := OwnI.set hlen hown.out k (ss.getD k 0)
        have hnext : (ss.take k ++ List.replicate (n - k) (0 : Int)).set k (ss.getD k 0) = ss.take (k + 1) ++ List.replicate (n - (k + 1)) (0 : Int) := by
          have e : n - k = (n - (k + 1)) + 1 := by omega
          rw [List.set_append_right _ _ (by simp; omega), e, List.replicate_succ]
          have e2 : k - (ss.take k).length = 0 := by simp; omega
          rw [e2, List.set_cons_zero, List.take_succ_eq_append_getElem hlk, List.append_assoc]
          simp [hlk]
        rw [hnext] at hset
        have hfz : wr.frozen? ⟨w.heap.size, k, none⟩ = false := World.ownsRow.frozenAt (by have := hown.out; unfold OwnI at this; rw [hlen] at this; exact this) k
        obtain ⟨x, hcell⟩ : ∃ x, wr.cell? ⟨w.heap.size, k, none⟩ = some x := by
          have h1 := hown.out
          unfold OwnI at h1
          rw [hlen] at h1
          have := World.ownsRow.cellAt h1 k (by omega)
          rw [this]
          exact ⟨_, List.getElem?_eq_getElem (by rw [List.length_map, hlen]; exact hlt)⟩
        obtain ⟨s, hs⟩ : ∃ s, s = ss.getD k 0 := ⟨_, rfl⟩
        rw [← hs] at c1 hset
        have hbw' : Below w.heap.size w (wr.setCell ⟨w.heap.size, k, none⟩ (.int .i64 s)) := hbw.setCell (Nat.le_refl _) _
        have HSET := Lib.hid hset
        clear hset hs hnext hlk
        subst ha
        go_wp2_with fail
        go_roundw
        case rel => exact ⟨k + 1, by omega, by go_num, HSET, hbw'⟩
        case measure => simp [intOf]; omega
    · obtain rfl : k = n := by omega
      have hend : Hid (OwnI w.heap.size wr (.slice (some ⟨w.heap.size, 0, none⟩) k k) ss) := by
        have h1 := hown.out
        rw [Nat.sub_self, List.replicate_zero, List.append_nil, List.take_of_length_le (by have := HN.out; omega)] at h1
        exact h1
      go_wp2_with fail
      go_ret
      exact ⟨_, hend.out, hbw, rfl⟩
end Go.Proofs.Ytkpganpojdboeaa

/-! MarkG -/
namespace Go.Proofs.Ytkpganpojdboeaa
open Go.RowKit

/-- A call that hands back a number, and leaves the slice in block g with other numbers; no other block turns. -/
def MarkedG (base : Nat) (g : Nat) (r : Int) (v : Value) (xs : List Int) (w : World) (e : Ending) (w' : World) : Prop := e = .returned (.int .i64 r) ∧ OwnI base w' v xs ∧ w.grownBy w' (some g)

theorem grown_refl (w : World) (r : Option Nat) : w.grownBy w r := ⟨rfl, rfl, rfl, Nat.le_refl _, fun _ _ _ => rfl⟩
theorem grown_trans {a b c : World} {r : Option Nat} (h : a.grownBy b r) (k : b.grownBy c r) : a.grownBy c r :=
  ⟨k.os.trans h.os, k.tape.trans h.tape, k.output.trans h.output, Nat.le_trans h.size k.size, fun i hi hn => (k.block i (Nat.lt_of_lt_of_le hi h.size) hn).trans (h.block i hi hn)⟩
theorem OwnI.kept {base : Nat} {w w' : World} {v : Value} {xs : List Int} {g : Nat} (h : OwnI base w v xs) (hg : w.grownBy w' (some g)) (hne : g < base) : OwnI base w' v xs := by
  refine World.ownsRow.kept h hg ?_
  rcases h.2 with ⟨hv, _⟩ | ⟨g', cap, cur, hv, hb, _⟩
  · subst hv; exact .inl rfl
  · subst hv; right; simp only [Value.ownBlock]; intro e; injection e with e; omega
theorem OwnI.lt {base : Nat} {w : World} {g n cap : Nat} {xs : List Int} (h : OwnI base w (.slice (some ⟨g, 0, none⟩) n cap) xs) : base ≤ g ∧ g < w.heap.size := World.ownsRow.lt h g rfl
theorem grown_below {w w' : World} {g B : Nat} (h : w.grownBy w' (some g)) (hB : B ≤ w.heap.size) (hg : B ≤ g) : Below B w w' := (Below.refl _ _).grown h hB (fun k hk => by injection hk with hk; omega)
theorem OwnI.up {base : Nat} {w : World} {g n cap : Nat} {xs : List Int} (h : OwnI base w (.slice (some ⟨g, 0, none⟩) n cap) xs) : OwnI g w (.slice (some ⟨g, 0, none⟩) n cap) xs := by
  refine ⟨h.1, ?_⟩
  rcases h.2 with ⟨hv, hn⟩ | ⟨g', cap', cur, hv, hb, r⟩
  · cases hv
  · cases hv
    exact .inr ⟨g, cap, cur, rfl, Nat.le_refl _, r⟩

set_option maxHeartbeats 1000000 in
theorem markIntS_one (base : Nat) (g cap n : Nat) (xs : List Int) (hn : xs.length = n) (k : Int) (w : World) (hk0 : 0 ≤ k) (hk1 : k ≤ 1000000000) (hn9 : n ≤ 1000000000) (h : OwnI base w (.slice (some ⟨g, 0, none⟩) n cap) xs) :
    Calls Try.prog 21 #[.slice (some ⟨g, 0, none⟩) n cap, .int .i64 k] w (MarkedG base g (k + n) (.slice (some ⟨g, 0, none⟩) n cap) (marks k n) w) := by
  have hb0 := grown_refl w (some g)
  have H := Lib.hid h
  have HN := Lib.hid hn
  clear h hn
  go_enter Try.func21, Try.ntmps21
  go_wp2_with fail
  go_loopw [1, 5] (fun v i wr => ∃ j : Nat, j ≤ n ∧ i = .int .i64 j ∧ v = .int .i64 (k + j) ∧ Hid (OwnI base wr (.slice (some ⟨g, 0, none⟩) n cap) (marks k j ++ xs.drop j)) ∧ w.grownBy wr (some g)) (fun _ i _ => n - (intOf i).toNat)
  case atStart => exact ⟨0, Nat.zero_le _, rfl, by simp, by simpa [marks] using H, hb0⟩
  case round =>
    obtain ⟨j, hj, rfl, rfl, hown, hbw⟩ := hrel
    have hlen : (marks k j ++ xs.drop j).length = n := by have := HN.out; rw [List.length_append, marks_length, List.length_drop]; omega
    by_cases hlt : j < n
    · have hlt' : (j : Int) < (n : Int) := by omega
      have hset := OwnI.set hlen hown.out j (k + j)
      rw [marks_set k xs j (by rw [HN.out]; exact hlt)] at hset
      have hrow := hown.out
      unfold OwnI at hrow
      rw [hlen] at hrow
      have hfz : wr.frozen? ⟨g, j, none⟩ = false := World.ownsRow.frozenAt hrow j
      obtain ⟨x, hcell⟩ : ∃ x, wr.cell? ⟨g, j, none⟩ = some x := by
        have := World.ownsRow.cellAt hrow j (by omega)
        rw [this]
        exact ⟨_, List.getElem?_eq_getElem (by rw [List.length_map, hlen]; exact hlt)⟩
      have hbw' : w.grownBy (wr.setCell ⟨g, j, none⟩ (.int .i64 (k + j))) (some g) := grown_trans hbw (World.ownsRow.stored hrow j _).2
      have HSET := Lib.hid hset
      clear hset hrow
      go_wp2_with fail
      go_roundw
      case rel => exact ⟨j + 1, by omega, by go_num, by go_num, HSET, hbw'⟩
      case measure => simp [intOf]; omega
    · obtain rfl : j = n := by omega
      have hend : Hid (OwnI base wr (.slice (some ⟨g, 0, none⟩) j cap) (marks k j)) := by
        have h1 := hown.out
        rw [List.drop_of_length_le (by rw [HN.out]; exact Nat.le_refl _), List.append_nil] at h1
        exact h1
      go_wp2_with fail
      go_ret
      exact ⟨rfl, hend.out, hbw⟩
end Go.Proofs.Ytkpganpojdboeaa

/-! Wd1 -/
namespace Go.Proofs.Ytkpganpojdboeaa
open Go.RowKit

theorem decide_lt_false {a b : Int} (h : b ≤ a) : decide (a < b) = false := by simp; omega

set_option maxHeartbeats 1000000 in
theorem wdIs_any (v : Value) (b1 : Nat) (L : List Int) (m : Int) (w : World) (hv : CellsI b1 w v L) (hm : 0 ≤ m) (hm2 : m ≤ 1000) :
    Calls Try.prog 76 #[v, .int .i64 m] w fun e w' => e = .returned (.bool (isW (m + 1) L)) ∧ w = w' := by
  obtain ⟨oa, cap, rfl, hcl, hcm, hcc⟩ := hv.form
  unfold maxLen at hcm
  clear hv
  have HC := Lib.hid hcc
  clear hcc
  go_enter Try.func76, Try.ntmps76
  go_wp2_with fail
  go_loop [9] (fun i => ∃ k : Nat, i = .int .i64 k ∧ k ≤ L.length ∧ Hid (isW (m + 1) L = isW (m + 1) (L.drop k))) (fun i => L.length - (intOf i).toNat)
  case atStart => exact ⟨0, rfl, Nat.zero_le _, rfl⟩
  case round =>
    obtain ⟨k, rfl, hk, he⟩ := hrel
    by_cases hlt : k < L.length
    · have hlt' : (k : Int) < (L.length : Int) := by omega
      obtain ⟨g, rfl, _, _, c1⟩ := HC.out k hlt
      have he' := he.out
      rw [isW_drop hlt] at he'
      generalize L.getD k 0 = x at c1 he'
      clear he
      cases hx : okL (m + 1) x with
      | false =>
        rw [hx, Bool.false_and] at he'
        have HE := Lib.hid he'
        have hx' := okL_false.1 hx
        clear he' hx
        by_cases h0 : x = 0
        · subst h0
          clear hx'
          go_wp2_with fail
          go_ret
          exact ⟨ret_bool HE.out.symm, rfl⟩
        · have h0' : (x == 0) = false := by rw [beq_eq_false_iff_ne]; exact h0
          have hno : x < -m - 1 ∨ m + 1 < x := by omega
          have HN := Lib.hid hno
          clear hx' h0 hno
          go_wp2_with fail
          refine (l1In_no x (-m - 1) (m + 1) _ HN.out).mono ?_; rintro e w1 ⟨rfl, rfl⟩
          go_wp2_with fail
          go_ret
          exact ⟨ret_bool HE.out.symm, rfl⟩
      | true =>
        rw [hx, Bool.true_and] at he'
        have HE := Lib.hid he'
        obtain ⟨h0, h1, h2⟩ := okL_iff.1 hx
        have h0' : (x == 0) = false := by rw [beq_eq_false_iff_ne]; exact h0
        have h1' : -m - 1 ≤ x := by omega
        clear he' hx h0 h1
        go_wp2_with fail
        refine (l1In_yes x (-m - 1) (m + 1) _ h1' h2).mono ?_; rintro e w1 ⟨rfl, rfl⟩
        go_wp2_with fail
        go_round
        case rel => exact ⟨k + 1, by go_num, by omega, HE⟩
        case measure => simp [intOf]; omega
    · obtain rfl : k = L.length := by omega
      have he' := he.out
      rw [isW_end] at he'
      have HE := Lib.hid he'
      clear he he'
      go_wp2_with fail
      go_ret
      exact ⟨ret_bool HE.out.symm, rfl⟩

/-- Contracts that say that nothing turns, as those that may make memory. -/
theorem gives_of {P : Program} {f : FuncId} {args : Array Value} {w : World} {v : Value} (h : Calls P f args w fun e w' => e = .returned v ∧ w = w') : Calls P f args w (Gives v w) := h.mono fun _ _ ⟨he, hw⟩ => ⟨he, by rw [← hw]; exact Below.refl _ _⟩
end Go.Proofs.Ytkpganpojdboeaa

/-! Wd4n -/
namespace Go.Proofs.Ytkpganpojdboeaa
open Go.RowKit
theorem numberOf_any (x : Int) (w : World) (h1 : -1000 ≤ x) (h2 : x ≤ 1000) :
    Calls Try.prog 114 #[.int .i64 x] w fun e w' => e = .returned (.int .i64 (num x)) ∧ w = w' := by
  unfold num
  by_cases h : x < 0
  · rw [if_pos h]
    have h' : x < -x := by omega
    go_enter Try.func114, Try.ntmps114
    go_wp2_with fail
    go_ret
    exact ⟨ret_int (by try omega), rfl⟩
  · rw [if_neg h]
    go_enter Try.func114, Try.ntmps114
    go_wp2_with fail
    go_ret
    exact ⟨ret_int (by try omega), rfl⟩
end Go.Proofs.Ytkpganpojdboeaa

/-! Comb -/
namespace Go.Proofs.Ytkpganpojdboeaa
open Go.RowKit

def rcomb : Nat → Tr
  | 0 => .lf
  | n + 1 => .nd .lf (rcomb n)
def lcomb : Nat → Tr
  | 0 => .lf
  | n + 1 => .nd (lcomb n) .lf
theorem rcomb_carets (n : Nat) : (rcomb n).carets = n := by induction n with | zero => rfl | succ n ih => simp [rcomb, Tr.carets, ih]
theorem lcomb_carets (n : Nat) : (lcomb n).carets = n := by induction n with | zero => rfl | succ n ih => simp [lcomb, Tr.carets, ih]
theorem rcomb_mir (n : Nat) : (rcomb n).mir = lcomb n := by induction n with | zero => rfl | succ n ih => simp [rcomb, lcomb, Tr.mir, ih]

theorem under_right (k : Nat) (w : World) (h : k ≤ 100) :
    Calls Try.prog 151 #[.string (rcomb k).str] w fun e w' => e = .returned (.string (rcomb (k + 1)).str) ∧ w = w' := by
  have hz := (rcomb k).str_size
  rw [rcomb_carets] at hz
  have e1 : (rcomb (k + 1)).str = ⟨#[40, 46]⟩ ++ (rcomb k).str ++ ⟨#[41]⟩ := by
    apply ba_ext
    rw [rcomb]
    simp [Tr.str, Tr.text]
  have E1 := Lib.hid e1
  clear e1
  go_enter Try.func151, Try.ntmps151
  go_wp2_with fail
  go_ret
  exact ⟨ret_str (by rw [E1.out]), rfl⟩
theorem under_left (k : Nat) (w : World) (h : k ≤ 100) :
    Calls Try.prog 152 #[.string (lcomb k).str] w fun e w' => e = .returned (.string (lcomb (k + 1)).str) ∧ w = w' := by
  have hz := (lcomb k).str_size
  rw [lcomb_carets] at hz
  have e1 : (lcomb (k + 1)).str = ⟨#[40]⟩ ++ (lcomb k).str ++ ⟨#[46]⟩ ++ ⟨#[41]⟩ := by
    apply ba_ext
    rw [lcomb]
    simp [Tr.str, Tr.text]
  have E1 := Lib.hid e1
  clear e1
  go_enter Try.func152, Try.ntmps152
  go_wp2_with fail
  go_ret
  exact ⟨ret_str (by rw [E1.out]), rfl⟩

def combO (g : Nat → Tr) (n : Int) : Option Tr := if 0 ≤ n ∧ n ≤ 8 then some (g n.toNat) else none

set_option maxHeartbeats 400000 in
theorem comb_any (g : Nat → Tr) (f : FuncId) (n : Int) (w : World) (h0 : g 0 = .lf)
    (hf : ∀ k w, k ≤ 100 → Calls Try.prog f #[.string (g k).str] w fun e w' => e = .returned (.string (g (k + 1)).str) ∧ w = w')
    (hcall : ∀ (args : Array Value) (w : World), (callFunc f args).run Try.prog w = .ok (.enter f args) w) :
    Calls Try.prog 150 #[.int .i64 n, .func (Fn.func f) #[] #[]] w fun e w' => e = .returned (ansV (combO g n)) ∧ w = w' := by
  unfold combO
  by_cases h1 : n < 0
  · rw [if_neg (by omega)]
    clear hf
    go_enter Try.func150, Try.ntmps150
    go_wp2_with fail
    go_ret2
    exact ⟨rfl, rfl⟩
  · by_cases h2 : 8 < n
    · rw [if_neg (by omega)]
      clear hf
      go_enter Try.func150, Try.ntmps150
      go_wp2_with fail
      go_ret2
      exact ⟨rfl, rfl⟩
    · rw [if_pos (by omega)]
      have HF := Lib.hid hf
      have H0 := Lib.hid h0
      clear hf h0
      go_enter Try.func150, Try.ntmps150
      go_wp2_with fail
      go_loop [6, 14] (fun t i => ∃ k : Nat, (k : Int) ≤ n ∧ i = .int .i64 k ∧ t = .string (g k).str) (fun _ i => n.toNat - (intOf i).toNat)
      case atStart => exact ⟨0, by omega, rfl, by rw [H0.out]; rfl⟩
      case round =>
        obtain ⟨k, hk, rfl, rfl⟩ := hrel
        by_cases hlt : (k : Int) < n
        · go_wp2_with fail
          refine (HF.out k _ (by omega)).mono ?_; rintro e w1 ⟨rfl, rfl⟩
          go_wp2_with fail
          go_round
          case rel => exact ⟨k + 1, by omega, by go_num, rfl⟩
          case measure => simp [intOf]; omega
        · obtain rfl : n = k := by omega
          go_wp2_with fail
          go_ret2
          exact ⟨rfl, rfl⟩

theorem implRightComb_any (n : Int) (w : World) (_lo : -9223372036854775808 ≤ n) (_hi : n ≤ 9223372036854775807) :
    Calls Try.prog 135 #[.int .i64 n] w (Gives (ansV (combO rcomb n)) w) := by
  go_enter Try.func135, Try.ntmps135
  go_wp2_with fail
  refine (comb_any rcomb 151 n _ rfl under_right (fun _ _ => by kernel_rfl)).mono ?_; rintro e w1 ⟨rfl, rfl⟩
  unfold ansV
  go_wp2_with fail
  go_ret2
  exact ⟨rfl, Below.refl _ _⟩

theorem implLeftComb_any (n : Int) (w : World) (_lo : -9223372036854775808 ≤ n) (_hi : n ≤ 9223372036854775807) :
    Calls Try.prog 136 #[.int .i64 n] w (Gives (ansV (combO lcomb n)) w) := by
  go_enter Try.func136, Try.ntmps136
  go_wp2_with fail
  refine (comb_any lcomb 152 n _ rfl under_left (fun _ _ => by kernel_rfl)).mono ?_; rintro e w1 ⟨rfl, rfl⟩
  unfold ansV
  go_wp2_with fail
  go_ret2
  exact ⟨rfl, Below.refl _ _⟩

theorem trRight_any (n : Nat) (w : World) (h : n ≤ 100) :
    Calls Try.prog 132 #[.int .i64 n] w fun e w' => e = .returned (.string (rcomb n).str) ∧ w = w' := by
  go_enter Try.func132, Try.ntmps132
  go_wp2_with fail
  go_loop [0, 3] (fun i t => ∃ k : Nat, k ≤ n ∧ i = .int .i64 k ∧ t = .string (rcomb (n - k)).str) (fun i _ => (intOf i).toNat)
  case atStart => exact ⟨n, Nat.le_refl _, rfl, by rw [Nat.sub_self]; rfl⟩
  case round =>
    obtain ⟨k, hk, rfl, rfl⟩ := hrel
    by_cases hlt : (0 : Int) < k
    · have hc := rcomb_carets (n - k)
      have he : Hid (rcomb (n - k + 1) = rcomb (n - (k - 1))) := by show _ = _; congr 1; omega
      go_wp2_with fail
      refine (trOf_any .lf (rcomb (n - k)) _ (by simp [Tr.carets, hc]; omega)).mono ?_; rintro e w1 ⟨rfl, rfl⟩
      go_wp2_with fail
      go_round
      case rel => exact ⟨k - 1, by omega, by go_num, by rw [← he.out]; rfl⟩
      case measure => simp [intOf]; omega
    · obtain rfl : k = 0 := by omega
      go_wp2_with fail
      go_ret
      exact ⟨rfl, rfl⟩

end Go.Proofs.Ytkpganpojdboeaa

/-! GenC -/
namespace Go.Proofs.Ytkpganpojdboeaa
open Go.RowKit

/-- x(i) -/
def genP (i : Nat) : Pr := ((rcomb i).graft i (lcomb 2), rcomb (i + 2))
def genO (n : Int) : Option Pr := if 0 ≤ n ∧ n ≤ 6 then some (genP n.toNat) else none
theorem lcomb2_str : (lcomb 2).str = ⟨#[40, 40, 46, 46, 41, 46, 41]⟩ := by apply ba_ext; rfl

theorem trGraft_tr (t u : Tr) (n : Int) (w : World) (h : 0 ≤ n) (k : n ≤ t.carets) (ht : t.carets ≤ 100) (hu : u.carets ≤ 100) :
    Calls Try.prog 131 #[.string t.str, .int .i64 n, .string u.str] w (Gives (.string (t.graft n u).str) w) := by
  have hz := t.str_size
  have hy := u.str_size
  have hp := pos_str t n
  have := trGraft_any t.str u.str n w (by omega) (by omega) h (by omega) (by omega)
  rw [graft_str t u n h (by unfold Tr.leaves; omega)] at this
  exact this
theorem graftO_tr (t u : Tr) (n : Int) (ht : t.carets ≤ 8) (hu : u.carets ≤ 8) : graftO t.str n u.str = if 0 ≤ n ∧ n ≤ t.carets ∧ t.carets + u.carets ≤ 8 then some (t.graft n u).str else none := by
  unfold graftO
  rw [treeOf_str t ht, treeOf_str u hu]
  by_cases h : 0 ≤ n ∧ n ≤ t.carets ∧ t.carets + u.carets ≤ 8
  · have := graft_str t u n h.1 (by unfold Tr.leaves; omega)
    simp [h, this]
  · simp [h]

set_option maxHeartbeats 1000000 in
theorem prGenerator_any (i : Nat) (w : World) (hi : i ≤ 20) :
    Calls Try.prog 108 #[.int .i64 i] w (Gives (.agg #[.string (genP i).1.str, .string (genP i).2.str]) w) := by
  have R1 := fun w => trRight_any i w (by omega)
  have R2 := fun w => trRight_any (i + 2) w (by omega)
  have c1 := rcomb_carets i
  have T := fun w => trGraft_tr (rcomb i) (lcomb 2) i w (by omega) (by omega) (by omega) (by decide)
  rw [lcomb2_str] at T
  have e2 : ((i + 2 : Nat) : Int) = (i : Int) + 2 := by omega
  rw [e2] at R2
  unfold genP
  generalize rcomb i = X at *
  generalize rcomb (i + 2) = Y at *
  generalize X.graft i (lcomb 2) = U at *
  clear e2 c1
  go_enter Try.func108, Try.ntmps108
  go_wp2_with fail
  have hb0 : Below w.heap.size w (w.alloc (.cells #[.string ⟨#[]⟩, .string ⟨#[]⟩] 25 (0, 0))) := nxAlloc (Below.refl _ _) _
  have hx := heap_alloc_at w (.cells #[.string ⟨#[]⟩, .string ⟨#[]⟩] 25 (0, 0))
  generalize w.alloc (.cells #[.string ⟨#[]⟩, .string ⟨#[]⟩] 25 (0, 0)) = w0 at *
  refine (R1 _).mono ?_; rintro e wc ⟨rfl, rfl⟩
  go_wp2_with fail
  refine (T _).mono ?_; rintro e w1 ⟨rfl, hb1⟩
  have hbw1 := nx hb0 hb1
  replace hx := heap_keep hb1 hx
  clear hb1 hb0
  obtain ⟨n1, n2⟩ := two_cells hx
  obtain ⟨f1, f2⟩ := two_frozen hx
  go_wp2_with fail
  refine (R2 _).mono ?_; rintro e wc ⟨rfl, rfl⟩
  go_wp2_with fail
  obtain ⟨q1, q2⟩ := two_cells (set_two (.string U.str) (.string Y.str) hx)
  refine bodyPost_ret (v := .agg #[.string U.str, .string Y.str]) (by simp [q1, q2, results, Try.results108, go_sem]) rfl ⟨rfl, ?_⟩
  exact (hbw1.setCell (Nat.le_refl _) _).setCell (Nat.le_refl _) _

set_option maxRecDepth 100000 in
set_option maxHeartbeats 2000000 in
theorem implGeneratorPair_any (n : Int) (w : World) (lo : -9223372036854775808 ≤ n) (hi : n ≤ 9223372036854775807) :
    Calls Try.prog 113 #[.int .i64 n] w (Gives (ansPr (genO n)) w) := by
  unfold genO
  by_cases h : 0 ≤ n ∧ n ≤ 6
  rotate_left
  · rw [if_neg h]
    by_cases h1 : n < 0
    · skip
      clear h
      go_enter Try.func113, Try.ntmps113
      go_wp2_with fail
      refine bodyPost_ret (v := .tuple #[.agg #[.string ⟨#[]⟩, .string ⟨#[]⟩], .bool false]) (by simp [results, Try.results113, go_sem]) rfl ⟨rfl, ?_⟩
      exact nxAlloc (Below.refl _ _) _
    · have h2 : 6 < n := by omega
      clear h
      go_enter Try.func113, Try.ntmps113
      go_wp2_with fail
      refine bodyPost_ret (v := .tuple #[.agg #[.string ⟨#[]⟩, .string ⟨#[]⟩], .bool false]) (by simp [results, Try.results113, go_sem]) rfl ⟨rfl, ?_⟩
      exact nxAlloc (Below.refl _ _) _
  rw [if_pos h]
  obtain ⟨i, rfl⟩ : ∃ i : Nat, n = i := ⟨n.toNat, by omega⟩
  have hi6 : i ≤ 6 := by omega
  have ei : ((i : Int)).toNat = i := by omega
  rw [ei]
  have R1 : ∀ w, Calls Try.prog 135 #[.int .i64 i] w (Gives (ansV (combO rcomb i)) w) := fun w => implRightComb_any i w (by omega) (by omega)
  have R2 : ∀ w, Calls Try.prog 136 #[.int .i64 2] w (Gives (ansV (combO lcomb 2)) w) := fun w => implLeftComb_any 2 w (by omega) (by omega)
  have R3 : ∀ w, Calls Try.prog 135 #[.int .i64 ((i : Int) + 2)] w (Gives (ansV (combO rcomb ((i : Int) + 2))) w) := fun w => implRightComb_any ((i : Int) + 2) w (by omega) (by omega)
  have c1 := rcomb_carets i
  have c2 : (lcomb 2).carets = 2 := rfl
  have s1 := (rcomb i).str_size
  have s2 : (lcomb 2).str.size = 7 := rfl
  have T := fun w => implGraftAt_any (rcomb i).str i (lcomb 2).str w (by omega) (by omega) (by omega) (by omega)
  rw [graftO_tr (rcomb i) (lcomb 2) i (by omega) (by omega), if_pos (by omega)] at T
  unfold combO at R1 R2 R3
  rw [if_pos (by omega)] at R1 R3
  rw [if_pos (by decide)] at R2
  have e3 : ((i : Int) + 2).toNat = i + 2 := by omega
  have e4 : ((2 : Int)).toNat = 2 := rfl
  rw [e3] at R3
  rw [e4] at R2
  rw [ei] at R1
  unfold genP
  generalize rcomb i = X at *
  generalize rcomb (i + 2) = Y at *
  generalize lcomb 2 = V at *
  generalize X.graft i V = U at *
  unfold ansV at R1 R2 R3
  unfold ans2 at T
  simp only [trS, trB, Option.getD_some, Option.isSome_some] at R1 R2 R3 T
  clear h ei e3 e4 c1 c2 s1 s2
  go_enter Try.func113, Try.ntmps113
  go_wp2_with fail
  have hb0 : Below w.heap.size w (w.alloc (.cells #[.string ⟨#[]⟩, .string ⟨#[]⟩] 25 (0, 0))) := nxAlloc (Below.refl _ _) _
  have hx := heap_alloc_at w (.cells #[.string ⟨#[]⟩, .string ⟨#[]⟩] 25 (0, 0))
  generalize w.alloc (.cells #[.string ⟨#[]⟩, .string ⟨#[]⟩] 25 (0, 0)) = w0 at *
  refine (R1 _).mono ?_; rintro e w1 ⟨rfl, hb1⟩
  have hbw1 := nx hb0 hb1
  replace hx := heap_keep hb1 hx
  clear hb1 hb0
  go_wp2_with fail
  refine (R2 _).mono ?_; rintro e w2 ⟨rfl, hb2⟩
  have hbw2 := nx hbw1 hb2
  replace hx := heap_keep hb2 hx
  clear hb2 hbw1
  go_wp2_with fail
  refine (T _).mono ?_; rintro e w3 ⟨rfl, hb3⟩
  have hbw3 := nx hbw2 hb3
  replace hx := heap_keep hb3 hx
  clear hb3 hbw2
  go_wp2_with fail
  refine (R3 _).mono ?_; rintro e w4 ⟨rfl, hb4⟩
  have hbw4 := nx hbw3 hb4
  replace hx := heap_keep hb4 hx
  clear hb4 hbw3
  obtain ⟨n1, n2⟩ := two_cells hx
  obtain ⟨f1, f2⟩ := two_frozen hx
  go_wp2_with fail
  obtain ⟨q1, q2⟩ := two_cells (set_two (.string U.str) (.string Y.str) hx)
  refine bodyPost_ret (v := .tuple #[.agg #[.string U.str, .string Y.str], .bool true]) (by simp [q1, q2, results, Try.results113, go_sem]) rfl ⟨rfl, ?_⟩
  exact (hbw4.setCell (Nat.le_refl _) _).setCell (Nat.le_refl _) _
end Go.Proofs.Ytkpganpojdboeaa

/-! Unit -/
namespace Go.Proofs.Ytkpganpojdboeaa
open Go.RowKit

/-- The pair of two leaves. -/
def unitP : Pr := (.lf, .lf)
/-- The product of so many, if none on the way is too great. -/
def pwN (b : Pr) : Nat → Option Pr
  | 0 => some unitP
  | k + 1 => (pwN b k).bind fun o => limP (mulP o b)
def powP (p : Pr) (k : Int) : Option Pr := if -10 ≤ k ∧ k ≤ 10 then (if k < 0 then pwN (invP p) (-k).toNat else pwN p k.toNat) else none

theorem limP_some {p q : Pr} (h : limP p = some q) : q = p ∧ p.1.carets ≤ 8 := by
  unfold limP at h
  split at h
  · next hc => injection h with h; exact ⟨h.symm, hc⟩
  · simp at h
theorem pwN_ok {b : Pr} (hb : okP b) : ∀ {k : Nat} {o : Pr}, pwN b k = some o → okP o ∧ o.1.carets ≤ 8 := by
  intro k
  induction k with
  | zero => intro o h; injection h with h; subst h; exact ⟨rfl, by decide⟩
  | succ k ih =>
    intro o h
    rw [pwN] at h
    cases h1 : pwN b k with
    | none => rw [h1] at h; simp at h
    | some q =>
      rw [h1] at h
      obtain ⟨e, hc⟩ := limP_some (show limP (mulP q b) = some o from h)
      rw [e]
      exact ⟨mulP_ok (ih h1).1 hb, hc⟩
theorem pwN_none {b : Pr} {k : Nat} (h : pwN b k = none) : ∀ j, k ≤ j → pwN b j = none := by
  intro j hj
  induction j with
  | zero => have : k = 0 := by omega
            subst this; exact h
  | succ j ih =>
    by_cases e : k = j + 1
    · rw [← e]; exact h
    · rw [pwN, ih (by omega)]; rfl

theorem prUnit_any (w : World) : Calls Try.prog 59 #[] w (Gives (.agg #[.string Tr.lf.str, .string Tr.lf.str]) w) := by
  go_enter Try.func59, Try.ntmps59
  go_wp2
  refine bodyPost_ret (v := .agg #[.string Tr.lf.str, .string Tr.lf.str]) (by simp [results, Try.results59, go_sem]; rfl) rfl ⟨rfl, ?_⟩
  exact nxAlloc (Below.refl _ _) _

theorem identity_any (w : World) : Calls Try.prog 54 #[] w (Gives (.agg #[.string Tr.lf.str, .string Tr.lf.str]) w) := by
  go_enter Try.func54, Try.ntmps54
  go_wp2
  refine bodyPost_ret (v := .agg #[.string Tr.lf.str, .string Tr.lf.str]) (by simp [results, Try.results54, go_sem]; rfl) rfl ⟨rfl, ?_⟩
  exact nxAlloc (Below.refl _ _) _
end Go.Proofs.Ytkpganpojdboeaa

/-! Pw -/
namespace Go.Proofs.Ytkpganpojdboeaa
open Go.RowKit

theorem genP_ok (i : Nat) : okP (genP i) ∧ (genP i).1.carets = i + 2 := by
  have h1 := graft_carets (rcomb i) (lcomb 2) i (by omega) (by simp [Tr.leaves, rcomb_carets]; omega)
  rw [rcomb_carets, lcomb_carets] at h1
  refine ⟨?_, h1⟩
  show (genP i).1.carets = (genP i).2.carets
  show ((rcomb i).graft i (lcomb 2)).carets = (rcomb (i + 2)).carets
  rw [h1, rcomb_carets]
/-- The pair of a letter. -/
def ltP (x : Int) : Pr := if x < 0 then invP (genP (num x).toNat) else genP (num x).toNat
theorem ltP_ok (x : Int) : okP (ltP x) ∧ (ltP x).1.carets = (num x).toNat + 2 := by
  have h := genP_ok (num x).toNat
  unfold ltP
  split
  · exact ⟨h.1.symm, by show (genP (num x).toNat).2.carets = _; rw [← h.2]; exact h.1.symm⟩
  · exact h

set_option maxHeartbeats 1000000 in
theorem wdLetter_any (x : Int) (w : World) (h0 : x ≠ 0) (h1 : -7 ≤ x) (h2 : x ≤ 7) :
    Calls Try.prog 77 #[.int .i64 x] w (Gives (.agg #[.string (ltP x).1.str, .string (ltP x).2.str]) w) := by
  by_cases hx : x < 0
  · obtain ⟨n, rfl⟩ : ∃ n : Nat, x = -((n : Int) + 1) := ⟨(-x - 1).toNat, by omega⟩
    have hn : (num (-((n : Int) + 1))).toNat = n := by unfold num; rw [if_pos hx]; omega
    unfold ltP
    rw [if_pos hx, hn]
    have hG := fun w => prGenerator_any n w (by omega)
    have hI := fun w => prInverse_any (genP n).1.str (genP n).2.str w
    have hd : (-((n : Int) + 1)) < 0 := hx
    have e1 : -(-((n : Int) + 1)) - 1 = (n : Int) := by omega
    show Calls _ _ _ _ (Gives (.agg #[.string (genP n).2.str, .string (genP n).1.str]) w)
    generalize (genP n).1.str = A at *
    generalize (genP n).2.str = B at *
    clear h0 hn hx
    go_enter Try.func77, Try.ntmps77
    go_wp2_with fail
    have hx0 := heap_alloc_at w (.cells #[.string ⟨#[]⟩, .string ⟨#[]⟩] 25 (0, 0))
    have hb0 := nxAlloc (Below.refl w.heap.size w) (.cells #[.string ⟨#[]⟩, .string ⟨#[]⟩] 25 (0, 0))
    generalize w.alloc (.cells #[.string ⟨#[]⟩, .string ⟨#[]⟩] 25 (0, 0)) = w0 at *
    obtain ⟨ka, kb, kc⟩ := two_facts hx0
    obtain ⟨kf, kg⟩ := two_frozen hx0
    refine (hG _).mono ?_; rintro e w1 ⟨rfl, hb1⟩
    replace hx0 := heap_keep hb1 hx0
    have hbw1 := nx hb0 hb1
    clear ka kb kc kf kg hb0 hb1 hG
    go_wp2_with fail
    refine (hI _).mono ?_; rintro e w2 ⟨rfl, hb2⟩
    replace hx0 := heap_keep hb2 hx0
    have hbw2 := nx hbw1 hb2
    obtain ⟨ka, kb, kc⟩ := two_facts hx0
    obtain ⟨kf, kg⟩ := two_frozen hx0
    clear hb2 hbw1 hI
    go_wp2_with fail
    obtain ⟨q1, q2⟩ := two_cells (set_two (.string B) (.string A) hx0)
    refine bodyPost_ret (v := .agg #[.string B, .string A]) (by simp [q1, q2, results, Try.results77, go_sem]) rfl ⟨rfl, ?_⟩
    exact (hbw2.setCell (Nat.le_refl _) _).setCell (Nat.le_refl _) _
  · obtain ⟨n, rfl⟩ : ∃ n : Nat, x = (n : Int) + 1 := ⟨(x - 1).toNat, by omega⟩
    have hn : (num ((n : Int) + 1)).toNat = n := by unfold num; rw [if_neg hx]; omega
    unfold ltP
    rw [if_neg hx, hn]
    have hG := fun w => prGenerator_any n w (by omega)
    have hd : (0 : Int) ≤ (n : Int) + 1 := by omega
    have e1 : (n : Int) + 1 - 1 = (n : Int) := by omega
    generalize (genP n).1.str = A at *
    generalize (genP n).2.str = B at *
    clear h0 hn hx
    go_enter Try.func77, Try.ntmps77
    go_wp2_with fail
    have hx0 := heap_alloc_at w (.cells #[.string ⟨#[]⟩, .string ⟨#[]⟩] 25 (0, 0))
    have hb0 := nxAlloc (Below.refl w.heap.size w) (.cells #[.string ⟨#[]⟩, .string ⟨#[]⟩] 25 (0, 0))
    generalize w.alloc (.cells #[.string ⟨#[]⟩, .string ⟨#[]⟩] 25 (0, 0)) = w0 at *
    refine (hG _).mono ?_; rintro e w1 ⟨rfl, hb1⟩
    replace hx0 := heap_keep hb1 hx0
    have hbw1 := nx hb0 hb1
    obtain ⟨ka, kb, kc⟩ := two_facts hx0
    obtain ⟨kf, kg⟩ := two_frozen hx0
    clear hb0 hb1 hG
    go_wp2_with fail
    obtain ⟨q1, q2⟩ := two_cells (set_two (.string A) (.string B) hx0)
    refine bodyPost_ret (v := .agg #[.string A, .string B]) (by simp [q1, q2, results, Try.results77, go_sem]) rfl ⟨rfl, ?_⟩
    exact (hbw1.setCell (Nat.le_refl _) _).setCell (Nat.le_refl _) _

/-- The answer of the program's letter. -/
def ltO (x : Int) : Option Pr := if num x ≤ 6 then some (ltP x) else none
set_option maxRecDepth 100000 in
set_option maxHeartbeats 2000000 in
theorem pairOfLetter_any (x : Int) (w : World) (h0 : x ≠ 0) (h1 : -21 ≤ x) (h2 : x ≤ 21) :
    Calls Try.prog 79 #[.int .i64 x] w (Gives (ansPr (ltO x)) w) := by
  have hN := fun w => numberOf_any x w (by omega) (by omega)
  have hn1 : 0 ≤ num x ∧ num x ≤ 20 := by unfold num; split <;> omega
  have hG := fun w => implGeneratorPair_any (num x) w (by omega) (by omega)
  have hans : ansPr (genO (num x)) = .tuple #[.agg #[.string (pS1 (genO (num x))), .string (pS2 (genO (num x)))], .bool (genO (num x)).isSome] := rfl
  simp only [hans] at hG
  have hfin : ansPr (ltO x) = if x < 0 then .tuple #[.agg #[.string (pS2 (genO (num x))), .string (pS1 (genO (num x)))], .bool (genO (num x)).isSome] else .tuple #[.agg #[.string (pS1 (genO (num x))), .string (pS2 (genO (num x)))], .bool (genO (num x)).isSome] := by
    by_cases h6 : num x ≤ 6
    · have e1 : ltO x = some (ltP x) := by unfold ltO; rw [if_pos h6]
      have e2 : genO (num x) = some (genP (num x).toNat) := by unfold genO; rw [if_pos ⟨hn1.1, h6⟩]
      rw [e1, e2]
      unfold ltP
      by_cases hx : x < 0
      · rw [if_pos hx, if_pos hx]; rfl
      · rw [if_neg hx, if_neg hx]; rfl
    · have e1 : ltO x = none := by unfold ltO; rw [if_neg h6]
      have e2 : genO (num x) = none := by unfold genO; rw [if_neg (fun h => h6 h.2)]
      rw [e1, e2]
      split <;> rfl
  rw [hfin]
  have hI := fun w => inverse_any (pS1 (genO (num x))) (pS2 (genO (num x))) w
  generalize pS1 (genO (num x)) = A at *
  generalize pS2 (genO (num x)) = B at *
  generalize (genO (num x)).isSome = ok at *
  clear hans hfin h0
  by_cases hx : x < 0
  · rw [if_pos hx]
    go_enter Try.func79, Try.ntmps79
    go_wp2_with fail
    have hx0 := heap_alloc_at w (.cells #[.string ⟨#[]⟩, .string ⟨#[]⟩] 25 (0, 0))
    have hb0 := nxAlloc (Below.refl w.heap.size w) (.cells #[.string ⟨#[]⟩, .string ⟨#[]⟩] 25 (0, 0))
    generalize w.alloc (.cells #[.string ⟨#[]⟩, .string ⟨#[]⟩] 25 (0, 0)) = w0 at *
    refine (hN _).mono ?_; rintro e w1 ⟨rfl, rfl⟩
    go_wp2_with fail
    refine (hG _).mono ?_; rintro e w1 ⟨rfl, hb1⟩
    replace hx0 := heap_keep hb1 hx0
    have hbw1 := nx hb0 hb1
    have hs1 : w.heap.size < w1.heap.size := lt_of_block hx0
    clear hb0 hb1 hG hN
    go_wp2_with fail
    have hy0 := heap_alloc_at w1 (.cells #[.string A, .string B] 25 (0, 0))
    replace hx0 := heap_keep (nxAlloc (Below.refl w1.heap.size w1) (.cells #[.string A, .string B] 25 (0, 0))) hx0
    have hbw2 := nxAlloc hbw1 (.cells #[.string A, .string B] 25 (0, 0))
    generalize w1.alloc (.cells #[.string A, .string B] 25 (0, 0)) = w2 at *
    obtain ⟨ka, kb, kc⟩ := two_facts hx0
    obtain ⟨kf, kg⟩ := two_frozen hx0
    obtain ⟨ya, yb, yc⟩ := two_facts hy0
    obtain ⟨yf, yg⟩ := two_frozen hy0
    clear hbw1
    go_wp2_with fail
    refine (hI _).mono ?_; rintro e w3 ⟨rfl, hb3⟩
    replace hx0 := heap_keep hb3 hx0
    replace hy0 := heap_keep hb3 hy0
    have hbw3 := nx hbw2 hb3
    clear ka kb kc kf kg ya yb yc yf yg hb3 hbw2 hI
    obtain ⟨ka, kb, kc⟩ := two_facts hx0
    obtain ⟨kf, kg⟩ := two_frozen hx0
    obtain ⟨yf, yg⟩ := two_frozen hy0
    obtain ⟨ya, yb, yc⟩ := two_facts hy0
    have hz0 := set_two (.string B) (.string A) hy0
    have hx1 : ((w3.setCell ⟨w1.heap.size, 0, none⟩ (.string B)).setCell ⟨w1.heap.size, 1, none⟩ (.string A)).heap[w.heap.size]? = some (.cells #[.string ⟨#[]⟩, .string ⟨#[]⟩] 25 (0, 0)) := by
      rw [Below.heap_setCell _ _ _ _ (by show w.heap.size ≠ w1.heap.size; omega), Below.heap_setCell _ _ _ _ (by show w.heap.size ≠ w1.heap.size; omega)]; exact hx0
    have hbw4 : Below w.heap.size w ((w3.setCell ⟨w1.heap.size, 0, none⟩ (.string B)).setCell ⟨w1.heap.size, 1, none⟩ (.string A)) := (hbw3.setCell (by show w.heap.size ≤ w1.heap.size; omega) _).setCell (by show w.heap.size ≤ w1.heap.size; omega) _
    have HZ := Lib.hid hz0
    have HX1 := Lib.hid hx1
    have HB4 := Lib.hid hbw4
    obtain ⟨za, zb, zc⟩ := two_facts hz0
    clear hz0 hx1 hbw4
    go_wp2_with fail
    obtain ⟨q1, q2⟩ := two_cells (set_two (.string B) (.string A) HX1.out)
    refine bodyPost_ret (v := .tuple #[.agg #[.string B, .string A], .bool ok]) (by simp [q1, q2, results, Try.results79, go_sem]) rfl ⟨rfl, ?_⟩
    exact (HB4.out.setCell (Nat.le_refl _) _).setCell (Nat.le_refl _) _
  · rw [if_neg hx]
    go_enter Try.func79, Try.ntmps79
    go_wp2_with fail
    have hx0 := heap_alloc_at w (.cells #[.string ⟨#[]⟩, .string ⟨#[]⟩] 25 (0, 0))
    have hb0 := nxAlloc (Below.refl w.heap.size w) (.cells #[.string ⟨#[]⟩, .string ⟨#[]⟩] 25 (0, 0))
    generalize w.alloc (.cells #[.string ⟨#[]⟩, .string ⟨#[]⟩] 25 (0, 0)) = w0 at *
    refine (hN _).mono ?_; rintro e w1 ⟨rfl, rfl⟩
    go_wp2_with fail
    refine (hG _).mono ?_; rintro e w1 ⟨rfl, hb1⟩
    replace hx0 := heap_keep hb1 hx0
    have hbw1 := nx hb0 hb1
    have hs1 : w.heap.size < w1.heap.size := lt_of_block hx0
    clear hb0 hb1 hG hN
    obtain ⟨ka, kb, kc⟩ := two_facts hx0
    obtain ⟨kf, kg⟩ := two_frozen hx0
    go_wp2_with fail
    have hx1 := heap_keep (nxAlloc (Below.refl _ _) (.cells #[.string A, .string B] 25 (0, 0))) (set_two (.string A) (.string B) hx0)
    have hbw2 := nxAlloc ((hbw1.setCell (p := ⟨w.heap.size, 0, none⟩) (Nat.le_refl _) (.string A)).setCell (p := ⟨w.heap.size, 1, none⟩) (Nat.le_refl _) (.string B)) (.cells #[.string A, .string B] 25 (0, 0))
    obtain ⟨q1, q2⟩ := two_cells hx1
    refine bodyPost_ret (v := .tuple #[.agg #[.string A, .string B], .bool ok]) (by simp [q1, q2, results, Try.results79, go_sem]) rfl ⟨rfl, ?_⟩
    exact hbw2
end Go.Proofs.Ytkpganpojdboeaa

/-! KiP -/
namespace Go.Proofs.Ytkpganpojdboeaa

def sL0 : ByteArray := ⟨#[76, 48]⟩
def sLL : ByteArray := ⟨#[76, 76]⟩
def sR0 : ByteArray := ⟨#[82, 48]⟩
def sRI : ByteArray := ⟨#[82, 73]⟩
def sRN : ByteArray := ⟨#[82, 78]⟩
def sI0 : ByteArray := ⟨#[73, 48]⟩
def sIR : ByteArray := ⟨#[73, 82]⟩
def sR : ByteArray := ⟨#[82]⟩

/-- The kind of a caret on neither side. -/
def inK (b : Bool) : ByteArray := if b then sI0 else sIR
namespace Tr
def inn : Tr → List ByteArray
  | lf => []
  | nd l r => l.inn ++ inK r.isLf :: r.inn
def lft : Tr → List ByteArray
  | lf => []
  | nd l r => l.lft ++ sLL :: r.inn
def rgt : Tr → List ByteArray
  | lf => []
  | nd l r => l.inn ++ sR :: r.rgt
def raw : Tr → List ByteArray
  | lf => []
  | nd l r => l.lft ++ sLL :: r.rgt
end Tr

/-- Whether a kind is that of a caret on neither side. -/
def isNe (s : ByteArray) : Bool := s = sI0 || s = sIR
/-- The kinds on the right side told, from behind: with whether all are on it. -/
def finF : List ByteArray → List ByteArray × Bool
  | [] => ([], true)
  | x :: r =>
    if x = sR then
      if (finF r).2 then (sR0 :: (finF r).1, true)
      else if isNe ((finF r).1.headD ⟨#[]⟩) then (sRI :: (finF r).1, false)
      else (sRN :: (finF r).1, false)
    else (x :: (finF r).1, false)
/-- The first caret is L0. -/
def firstK : List ByteArray → List ByteArray
  | [] => []
  | _ :: r => sL0 :: r
def Tr.kinds (t : Tr) : List ByteArray := (finF (firstK t.raw)).1

theorem finF_length (l : List ByteArray) : (finF l).1.length = l.length := by
  induction l with
  | nil => rfl
  | cons x r ih =>
    rw [finF]
    split
    · split
      · simp [ih]
      · split <;> simp [ih]
    · simp [ih]
theorem firstK_length (l : List ByteArray) : (firstK l).length = l.length := by cases l <;> rfl
theorem inn_length (t : Tr) : t.inn.length = t.carets := by
  induction t with
  | lf => rfl
  | nd l r ihl ihr => simp [Tr.inn, Tr.carets, ihl, ihr]; omega
theorem lft_length (t : Tr) : t.lft.length = t.carets := by
  induction t with
  | lf => rfl
  | nd l r ihl ihr => simp [Tr.lft, Tr.carets, ihl, inn_length]; omega
theorem rgt_length (t : Tr) : t.rgt.length = t.carets := by
  induction t with
  | lf => rfl
  | nd l r ihl ihr => simp [Tr.rgt, Tr.carets, ihr, inn_length]; omega
theorem raw_length (t : Tr) : t.raw.length = t.carets := by
  cases t with
  | lf => rfl
  | nd l r => simp [Tr.raw, Tr.carets, lft_length, rgt_length]; omega
theorem kinds_length (t : Tr) : t.kinds.length = t.carets := by
  unfold Tr.kinds
  rw [finF_length, firstK_length, raw_length]

/-- One step of the loop from behind. -/
theorem finF_step (x : ByteArray) (r : List ByteArray) : finF (x :: r) = if x = sR then
      if (finF r).2 then (sR0 :: (finF r).1, true)
      else if isNe ((finF r).1.headD ⟨#[]⟩) then (sRI :: (finF r).1, false)
      else (sRN :: (finF r).1, false)
    else (x :: (finF r).1, false) := rfl
theorem finF_late (l : List ByteArray) (h : (finF l).2 = false) : l ≠ [] := by
  intro e
  rw [e] at h
  simp [finF] at h

/-- The carets of a tree: their addresses, and whether their right sides are leaves. -/
def Tr.cars : Tr → ByteArray → List (ByteArray × Bool)
  | .lf, _ => []
  | .nd l r, here => l.cars (here ++ ⟨#[48]⟩) ++ (here, r.isLf) :: r.cars (here ++ ⟨#[49]⟩)
theorem cars_length (t : Tr) : ∀ here, (t.cars here).length = t.carets := by
  induction t with
  | lf => intro here; rfl
  | nd l r ihl ihr => intro here; simp [Tr.cars, Tr.carets, ihl, ihr]; omega
theorem cars_size (t : Tr) : ∀ here, ∀ x ∈ t.cars here, x.1.size ≤ here.size + t.carets := by
  induction t with
  | lf => intro here x hx; simp [Tr.cars] at hx
  | nd l r ihl ihr =>
    intro here x hx
    simp only [Tr.cars, List.mem_append, List.mem_cons] at hx
    have e : (Tr.nd l r).carets = l.carets + r.carets + 1 := rfl
    have s0 : (here ++ (⟨#[48]⟩ : ByteArray)).size = here.size + 1 := ByteArray.size_append
    have s1 : (here ++ (⟨#[49]⟩ : ByteArray)).size = here.size + 1 := ByteArray.size_append
    rcases hx with hx | rfl | hx
    · have := ihl _ x hx; omega
    · show here.size ≤ _; omega
    · have := ihr _ x hx; omega
def hasB (s : ByteArray) (c : UInt8) : Bool := s.data.toList.contains c
/-- The kind of a caret by its address: sR on the right side. -/
def codeK (x : ByteArray × Bool) : ByteArray :=
  if hasB x.1 49 = false then sLL else if hasB x.1 48 = false then sR else inK x.2
theorem hasB_append (a b : ByteArray) (c : UInt8) : hasB (a ++ b) c = (hasB a c || hasB b c) := by
  have e : (a ++ b).data.toList = a.data.toList ++ b.data.toList := by simp [ByteArray.data_append]
  unfold hasB
  rw [e]
  induction a.data.toList with
  | nil => simp
  | cons x l ih => simp only [List.cons_append, List.contains_cons, ih, Bool.or_assoc]
theorem cars_inn (t : Tr) : ∀ here, hasB here 48 = true → hasB here 49 = true → (t.cars here).map codeK = t.inn := by
  induction t with
  | lf => intro here h k; rfl
  | nd l r ihl ihr =>
    intro here h k
    simp only [Tr.cars, Tr.inn, List.map_append, List.map_cons]
    rw [ihl _ (by rw [hasB_append, h]; rfl) (by rw [hasB_append, k]; rfl), ihr _ (by rw [hasB_append, h]; rfl) (by rw [hasB_append, k]; rfl)]
    congr 2
    simp [codeK, h, k]
theorem cars_lft (t : Tr) : ∀ here, hasB here 48 = true → hasB here 49 = false → (t.cars here).map codeK = t.lft := by
  induction t with
  | lf => intro here h k; rfl
  | nd l r ihl ihr =>
    intro here h k
    simp only [Tr.cars, Tr.lft, List.map_append, List.map_cons]
    rw [ihl _ (by rw [hasB_append, h]; rfl) (by rw [hasB_append, k]; rfl), cars_inn r _ (by rw [hasB_append, h]; rfl) (by rw [hasB_append, k]; rfl)]
    congr 2
    simp [codeK, k]
theorem cars_rgt (t : Tr) : ∀ here, hasB here 48 = false → hasB here 49 = true → (t.cars here).map codeK = t.rgt := by
  induction t with
  | lf => intro here h k; rfl
  | nd l r ihl ihr =>
    intro here h k
    simp only [Tr.cars, Tr.rgt, List.map_append, List.map_cons]
    rw [cars_inn l _ (by rw [hasB_append, h]; rfl) (by rw [hasB_append, k]; rfl), ihr _ (by rw [hasB_append, h]; rfl) (by rw [hasB_append, k]; rfl)]
    congr 2
    simp [codeK, h, k]
theorem cars_raw (t : Tr) : (t.cars ⟨#[]⟩).map codeK = t.raw := by
  cases t with
  | lf => rfl
  | nd l r =>
    simp only [Tr.cars, Tr.raw, List.map_append, List.map_cons]
    rw [cars_lft l _ rfl rfl, cars_rgt r _ rfl rfl]
    rfl

/-- The kind of a caret on the right side, by those behind it. -/
def korK (later : List ByteArray) : ByteArray :=
  if later.any isNe = false then sR0 else if isNe (later.headD ⟨#[]⟩) then sRI else sRN
def kindK (i : Nat) (x : ByteArray) (later : List ByteArray) : ByteArray :=
  if i = 0 then sL0 else if x = sLL then sLL else if x = sR then korK later else x
/-- The kinds from a place on. -/
def kindsFrom : Nat → List ByteArray → List ByteArray
  | _, [] => []
  | i, x :: r => kindK i x r :: kindsFrom (i + 1) r

theorem isNe_LL : isNe sLL = false := by decide
theorem isNe_R : isNe sR = false := by decide
/-- Codes: behind one on the right side none is on the left side. -/
def okC : List ByteArray → Prop
  | [] => True
  | x :: r => (x = sLL ∨ x = sR ∨ isNe x = true) ∧ (x = sR → sLL ∉ r) ∧ okC r
theorem okC_any {r : List ByteArray} (h : okC r) (k : sLL ∉ r) : (finF r).2 = !(r.any isNe) := by
  induction r with
  | nil => rfl
  | cons x r ih =>
    obtain ⟨h1, _, h3⟩ := h
    have hx : x ≠ sLL := fun e => k (by rw [e]; exact List.mem_cons_self)
    have kr : sLL ∉ r := fun e => k (List.mem_cons_of_mem _ e)
    have := ih h3 kr
    rw [finF_step]
    rcases h1 with h1 | h1 | h1
    · exact absurd h1 hx
    · rw [if_pos h1, List.any_cons, h1, isNe_R, Bool.false_or]
      cases hf : (finF r).2 with
      | true => rw [hf] at this; simp [← this]
      | false =>
        rw [hf] at this
        simp only [Bool.false_eq_true, if_false]
        split <;> exact this
    · have : x ≠ sR := by intro e; rw [e, isNe_R] at h1; cases h1
      rw [if_neg this]
      simp [h1]
theorem headD_finF (r : List ByteArray) (h : okC r) : isNe ((finF r).1.headD ⟨#[]⟩) = isNe (r.headD ⟨#[]⟩) := by
  cases r with
  | nil => rfl
  | cons x r =>
    rw [finF_step]
    by_cases hx : x = sR
    · rw [if_pos hx]
      show _ = isNe x
      rw [hx, isNe_R]
      split
      · rfl
      · split <;> rfl
    · rw [if_neg hx]
      rfl
theorem finF_kinds (r : List ByteArray) (h : okC r) : ∀ i, 0 < i → (finF r).1 = kindsFrom i r := by
  induction r with
  | nil => intro i hi; rfl
  | cons x r ih =>
    intro i hi
    have hh := h
    obtain ⟨h1, h2, h3⟩ := h
    rw [finF_step, kindsFrom, kindK, if_neg (show ¬ i = 0 by omega), ← ih h3 (i + 1) (by omega)]
    by_cases hx : x = sR
    · have hx2 : x ≠ sLL := by rw [hx]; decide
      have ha := okC_any h3 (h2 hx)
      have hd := headD_finF r h3
      rw [if_pos hx, if_pos hx, if_neg hx2]
      unfold korK
      rw [hd, ha]
      cases r.any isNe with
      | false => rfl
      | true =>
        simp only [Bool.not_true, Bool.false_eq_true, if_false, reduceCtorEq]
        split <;> rfl
    · rw [if_neg hx, if_neg hx]
      split
      · next hl => rw [hl]
      · rfl
theorem inK_ne (b : Bool) : isNe (inK b) = true := by cases b <;> decide
theorem inn_all (t : Tr) : ∀ x ∈ t.inn, isNe x = true := by
  induction t with
  | lf => intro x hx; simp [Tr.inn] at hx
  | nd l r ihl ihr =>
    intro x hx
    simp only [Tr.inn, List.mem_append, List.mem_cons] at hx
    rcases hx with hx | rfl | hx
    · exact ihl x hx
    · exact inK_ne _
    · exact ihr x hx
theorem rgt_all (t : Tr) : ∀ x ∈ t.rgt, x = sR ∨ isNe x = true := by
  induction t with
  | lf => intro x hx; simp [Tr.rgt] at hx
  | nd l r ihl ihr =>
    intro x hx
    simp only [Tr.rgt, List.mem_append, List.mem_cons] at hx
    rcases hx with hx | rfl | hx
    · exact .inr (inn_all l x hx)
    · exact .inl rfl
    · exact ihr x hx
theorem lft_all (t : Tr) : ∀ x ∈ t.lft, x = sLL ∨ isNe x = true := by
  induction t with
  | lf => intro x hx; simp [Tr.lft] at hx
  | nd l r ihl ihr =>
    intro x hx
    simp only [Tr.lft, List.mem_append, List.mem_cons] at hx
    rcases hx with hx | rfl | hx
    · exact ihl x hx
    · exact .inl rfl
    · exact .inr (inn_all r x hx)
theorem okC_rgt (l : List ByteArray) (h : ∀ x ∈ l, x = sR ∨ isNe x = true) : okC l := by
  induction l with
  | nil => trivial
  | cons x r ih =>
    refine ⟨.inr (h x List.mem_cons_self), fun _ hm => ?_, ih fun y hy => h y (List.mem_cons_of_mem _ hy)⟩
    rcases h _ (List.mem_cons_of_mem _ hm) with e | e
    · exact absurd e (by decide)
    · rw [isNe_LL] at e; cases e
theorem okC_front (l m : List ByteArray) (h : ∀ x ∈ l, x = sLL ∨ isNe x = true) (hm : okC m) : okC (l ++ m) := by
  induction l with
  | nil => exact hm
  | cons x r ih =>
    refine ⟨?_, fun e => ?_, ih fun y hy => h y (List.mem_cons_of_mem _ hy)⟩
    · rcases h x List.mem_cons_self with e | e
      · exact .inl e
      · exact .inr (.inr e)
    · rcases h x List.mem_cons_self with k | k
      · rw [e] at k; exact absurd k (by decide)
      · rw [e, isNe_R] at k; cases k
theorem okC_raw (t : Tr) : okC t.raw := by
  cases t with
  | lf => trivial
  | nd l r =>
    exact okC_front _ _ (lft_all l) ⟨.inl rfl, fun e => absurd e (by decide), okC_rgt _ (rgt_all r)⟩
theorem kinds_from (t : Tr) : t.kinds = kindsFrom 0 t.raw := by
  have h := okC_raw t
  unfold Tr.kinds
  cases hr : t.raw with
  | nil => rfl
  | cons x r =>
    rw [hr] at h
    show (finF (sL0 :: r)).1 = _
    rw [finF_step, if_neg (by decide), kindsFrom, kindK, if_pos rfl, finF_kinds r h.2.2 1 (by omega)]
end Go.Proofs.Ytkpganpojdboeaa

/-! LnP -/
namespace Go.Proofs.Ytkpganpojdboeaa

/-- The row of a kind in the table, or -1. -/
def rowK (s : ByteArray) : Int := if s = sR0 then 0 else if s = sRN then 1 else if s = sRI then 2 else if s = sLL then 3 else if s = sI0 then 4 else if s = sIR then 5 else -1
/-- The table, row by row. -/
def tabK : List Int := [0, 2, 2, 1, 1, 3, 2, 2, 2, 1, 1, 3, 2, 2, 2, 1, 3, 3, 1, 1, 1, 2, 2, 2, 1, 1, 3, 2, 2, 4, 3, 3, 3, 2, 4, 4]
def lenO (a b : ByteArray) : Option Int :=
  if a = sL0 ∧ b = sL0 then some 0
  else if rowK a < 0 ∨ rowK b < 0 then none
  else some (tabK.getD ((rowK a).toNat * 6 + (rowK b).toNat) 0)
def lenV (a b : ByteArray) : Int := (lenO a b).getD 0
/-- The sum over the first j carets. -/
def lenU (l m : List ByteArray) : Nat → Int
  | 0 => 0
  | j + 1 => lenU l m j + lenV (l.getD j ⟨#[]⟩) (m.getD j ⟨#[]⟩)
def lenP (p : Pr) : Int := lenU p.1.kinds p.2.kinds p.1.kinds.length

theorem rowK_range (s : ByteArray) : -1 ≤ rowK s ∧ rowK s ≤ 5 := by
  unfold rowK
  repeat' split
  all_goals omega
theorem tabK_range (i : Nat) : 0 ≤ tabK.getD i 0 ∧ tabK.getD i 0 ≤ 4 := by
  by_cases h : i < 36
  · have : ∀ i : Fin 36, 0 ≤ tabK.getD i.1 0 ∧ tabK.getD i.1 0 ≤ 4 := by decide
    exact this ⟨i, h⟩
  · rw [List.getD_eq_getElem?_getD, List.getElem?_eq_none (by show 36 ≤ i; omega)]
    simp
theorem lenO_range {a b : ByteArray} {n : Int} (h : lenO a b = some n) : 0 ≤ n ∧ n ≤ 4 := by
  unfold lenO at h
  split at h
  · cases h; omega
  · split at h
    · cases h
    · cases h; exact tabK_range _
theorem lenV_range (a b : ByteArray) : 0 ≤ lenV a b ∧ lenV a b ≤ 4 := by
  unfold lenV
  cases h : lenO a b with
  | none => simp
  | some n => exact lenO_range h
theorem lenU_range (l m : List ByteArray) : ∀ j, 0 ≤ lenU l m j ∧ lenU l m j ≤ 4 * j := by
  intro j
  induction j with
  | zero => simp [lenU]
  | succ j ih => have := lenV_range (l.getD j ⟨#[]⟩) (m.getD j ⟨#[]⟩); rw [lenU]; omega
theorem lenP_range (p : Pr) : 0 ≤ lenP p ∧ lenP p ≤ 4 * p.1.carets := by
  have := lenU_range p.1.kinds p.2.kinds p.1.kinds.length
  rw [kinds_length] at this
  unfold lenP
  rw [kinds_length]
  exact this
/-- The index in the list of all kinds but L0. -/
theorem rowK_at (s : ByteArray) : (rowK s < 0 → ∀ k ∈ [sR0, sRN, sRI, sLL, sI0, sIR], k ≠ s) ∧ (0 ≤ rowK s → [sR0, sRN, sRI, sLL, sI0, sIR].getD (rowK s).toNat ⟨#[]⟩ = s ∧ ∀ j, j < (rowK s).toNat → [sR0, sRN, sRI, sLL, sI0, sIR].getD j ⟨#[]⟩ ≠ s) := by
  by_cases h0 : s = sR0
  · subst h0
    exact ⟨by decide, fun _ => ⟨by decide, by decide⟩⟩
  by_cases h1 : s = sRN
  · subst h1
    exact ⟨by decide, fun _ => ⟨by decide, by decide⟩⟩
  by_cases h2 : s = sRI
  · subst h2
    exact ⟨by decide, fun _ => ⟨by decide, by decide⟩⟩
  by_cases h3 : s = sLL
  · subst h3
    exact ⟨by decide, fun _ => ⟨by decide, by decide⟩⟩
  by_cases h4 : s = sI0
  · subst h4
    exact ⟨by decide, fun _ => ⟨by decide, by decide⟩⟩
  by_cases h5 : s = sIR
  · subst h5
    exact ⟨by decide, fun _ => ⟨by decide, by decide⟩⟩
  have hr : rowK s = -1 := by simp [rowK, h0, h1, h2, h3, h4, h5]
  rw [hr]
  refine ⟨fun _ k hk e => ?_, fun h => absurd h (by omega)⟩
  simp at hk
  rcases hk with rfl | rfl | rfl | rfl | rfl | rfl
  · exact h0 e.symm
  · exact h1 e.symm
  · exact h2 e.symm
  · exact h3 e.symm
  · exact h4 e.symm
  · exact h5 e.symm
end Go.Proofs.Ytkpganpojdboeaa

/-! Lt1 -/
namespace Go.Proofs.Ytkpganpojdboeaa
open Go.RowKit

def fourL : List Int := [1, -1, 2, -2]
theorem fourL_get (k : Nat) (h : k < 4) : fourL.getD k 0 ≠ 0 ∧ -2 ≤ fourL.getD k 0 ∧ fourL.getD k 0 ≤ 2 := by
  match k, h with
  | 0, _ => decide
  | 1, _ => decide
  | 2, _ => decide
  | 3, _ => decide
theorem ltP_small {x : Int} (_h0 : x ≠ 0) (h1 : -2 ≤ x) (h2 : x ≤ 2) : okP (ltP x) ∧ (ltP x).1.carets ≤ 3 ∧ (ltP x).2.carets ≤ 3 := by
  have h := ltP_ok x
  have hn : (num x).toNat ≤ 1 := by unfold num; split <;> omega
  have hk := h.1
  unfold okP at hk
  exact ⟨h.1, by omega, by omega⟩
/-- The four letters in a block of their own. -/
def GivesFour (w : World) (e : Ending) (w' : World) : Prop :=
  e = .returned (.slice (some ⟨w.heap.size, 0, none⟩) 4 4) ∧ (∀ k, k < 4 → w'.cell? ⟨w.heap.size, k, none⟩ = some (.int .i64 (fourL.getD k 0))) ∧ w.heap.size < w'.heap.size ∧ Below w.heap.size w w'
theorem four_cells (w : World) (t : TypeId) (j : Nat) (h : j < 4) : (w.alloc (.cells #[.int .i64 1, .int .i64 (-1), .int .i64 2, .int .i64 (-2)] t (0, 0))).cell? ⟨w.heap.size, j, none⟩ = some (.int .i64 (fourL.getD j 0)) := by
  show ((match (w.alloc (.cells #[.int .i64 1, .int .i64 (-1), .int .i64 2, .int .i64 (-2)] t (0, 0))).heap[w.heap.size]? with
    | some (.cells c _ _) => c[j]?
    | _ => none) : Option Value) = _
  rw [heap_alloc_at]
  match j, h with
  | 0, _ => rfl
  | 1, _ => rfl
  | 2, _ => rfl
  | 3, _ => rfl
theorem lnLetters_any (w : World) : Calls Try.prog 117 #[] w (GivesFour w) := by
  have hc := four_cells w 3
  have hb := nxAlloc (Below.refl w.heap.size w) (.cells #[.int .i64 1, .int .i64 (-1), .int .i64 2, .int .i64 (-2)] 3 (0, 0))
  go_enter Try.func117, Try.ntmps117
  go_wp2_with fail
  go_ret
  exact ⟨rfl, hc, by simp, hb⟩
theorem twoLetters_any (w : World) : Calls Try.prog 111 #[] w (GivesFour w) := by
  have hc := four_cells w 3
  have hb := nxAlloc (Below.refl w.heap.size w) (.cells #[.int .i64 1, .int .i64 (-1), .int .i64 2, .int .i64 (-2)] 3 (0, 0))
  go_enter Try.func111, Try.ntmps111
  go_wp2_with fail
  go_ret
  exact ⟨rfl, hc, by simp, hb⟩
end Go.Proofs.Ytkpganpojdboeaa

/-! Tw -/
namespace Go.Proofs.Ytkpganpojdboeaa
open Go.RowKit

def twoB (L : List Int) : Bool := decide (L.length ≤ 20) && isW 2 L
theorem four_has (x : Int) : fourL.contains x = okL 2 x := by
  rw [Bool.eq_iff_iff, okL_iff]
  unfold fourL
  simp only [List.contains_cons, List.contains_nil, Bool.or_false, Bool.or_eq_true, beq_iff_eq]
  omega
theorem any_isW (L : List Int) : L.any (fun x => !fourL.contains x) = !isW 2 L := by
  induction L with
  | nil => rfl
  | cons x l ih =>
    have e : isW 2 (x :: l) = (okL 2 x && isW 2 l) := rfl
    rw [List.any_cons, ih, e, four_has]
    cases okL 2 x <;> cases isW 2 l <;> rfl
theorem four_frozen {w : World} {g : Nat} {c : Array Value} {t : TypeId} (h : w.heap[g]? = some (.cells c t (0, 0))) (i : Nat) : w.frozen? ⟨g, i, none⟩ = false := by simp [World.frozen?, h]

theorem twoLetters_cells (w : World) : Calls Try.prog 111 #[] w fun e w' => e = .returned (.slice (some ⟨w.heap.size, 0, none⟩) 4 4) ∧ CellsI 0 w' (.slice (some ⟨w.heap.size, 0, none⟩) 4 4) fourL ∧ Below w.heap.size w w' := by
  have hc := four_cells w 3
  have hb := nxAlloc (Below.refl w.heap.size w) (.cells #[.int .i64 1, .int .i64 (-1), .int .i64 2, .int .i64 (-2)] 3 (0, 0))
  have hx := heap_alloc_at w (.cells #[.int .i64 1, .int .i64 (-1), .int .i64 2, .int .i64 (-2)] 3 (0, 0))
  have hz : ∀ i, (w.alloc (.cells #[.int .i64 1, .int .i64 (-1), .int .i64 2, .int .i64 (-2)] 3 (0, 0))).frozen? ⟨w.heap.size, i, none⟩ = false := four_frozen hx
  have hl := lt_of_block hx
  have hC : CellsI 0 (w.alloc (.cells #[.int .i64 1, .int .i64 (-1), .int .i64 2, .int .i64 (-2)] 3 (0, 0))) (.slice (some ⟨w.heap.size, 0, none⟩) 4 4) fourL := .inr ⟨w.heap.size, 4, rfl, Nat.zero_le _, hl, by decide, by decide, hc, hz⟩
  have HC := Lib.hid hC
  clear hc hx hz hl hC
  go_enter Try.func111, Try.ntmps111
  go_wp2_with fail
  go_ret
  exact ⟨rfl, HC.out, hb⟩
theorem otherLetter_any (x : Int) (w : World) : Calls Try.prog 109 #[.int .i64 x] w (Gives (.bool (!fourL.contains x)) w) := by
  have hC := fun v w h => contains_any 0 v fourL x w h
  generalize fourL.contains x = q at *
  go_enter Try.func109, Try.ntmps109
  go_wp2_with fail
  refine (twoLetters_cells _).mono ?_; rintro e w1 ⟨rfl, hc, hb1⟩
  have HC := Lib.hid hc
  clear hc
  go_wp2_with fail
  refine (hC _ _ HC.out).mono ?_; rintro e w2 ⟨rfl, n2, rfl⟩
  go_wp2_with fail
  go_ret
  exact ⟨rfl, drewB hb1 n2⟩
theorem anyO_drop {l : List Int} {k : Nat} (h : k < l.length) : (l.drop k).any (fun x => !fourL.contains x) = ((!fourL.contains (l.getD k 0)) || (l.drop (k + 1)).any (fun x => !fourL.contains x)) := by
  rw [List.drop_eq_getElem_cons h, List.any_cons]
  simp [h]
set_option maxRecDepth 100000 in
set_option maxHeartbeats 2000000 in
theorem indexOther_any (v : Value) (b1 : Nat) (L : List Int) (w : World) (hv : CellsI b1 w v L)
    (hcall : ∀ (args : Array Value) (w : World), (callFunc 109 args).run Try.prog w = .ok (.enter 109 args) w) :
    Calls Try.prog 134 #[v, .func (Fn.func 109) #[] #[]] w fun e w' => ∃ z : Int, e = .returned (.int .i64 z) ∧ decide (0 ≤ z) = L.any (fun x => !fourL.contains x) ∧ Below w.heap.size w w' := by
  rcases hv with ⟨rfl, rfl⟩ | ⟨g, cap, rfl, _, hg, hc1, hc2, hcell, _⟩
  · go_enter Try.func134, Try.ntmps134
    go_wp2_with fail
    go_loopw [8] (fun i wr => i = .int .i64 0 ∧ wr = w) (fun _ _ => 0)
    case atStart => exact ⟨rfl, rfl⟩
    case round =>
      obtain ⟨rfl, rfl⟩ := hrel
      go_wp2_with fail
      go_ret
      exact ⟨_, rfl, rfl, Below.refl _ _⟩
  · have HX := Lib.hid hcell
    obtain ⟨n, hn0⟩ : ∃ n, n = L.length := ⟨_, rfl⟩
    rw [← hn0] at hc1 ⊢
    have HN := Lib.hid hn0
    unfold maxLen at hc2
    clear hcell hn0
    go_enter Try.func134, Try.ntmps134
    go_wp2_with fail
    go_loopw [8] (fun i wr => ∃ k : Nat, k ≤ n ∧ i = .int .i64 k ∧ Hid (L.any (fun x => !fourL.contains x) = (L.drop k).any (fun x => !fourL.contains x)) ∧ Below w.heap.size w wr) (fun i _ => n - (intOf i).toNat)
    case atStart => exact ⟨0, Nat.zero_le _, rfl, Lib.hid rfl, Below.refl _ _⟩
    case round =>
      obtain ⟨k, hk, rfl, ha, hbw⟩ := hrel
      by_cases hlt : k < n
      · have hlt' : (k : Int) < (n : Int) := by omega
        have hkx : k < L.length := by have := HN.out; omega
        have c1 := (hbw.cell (p := ⟨g, k, none⟩) hg).trans (HX.out k hkx)
        have hd := ha.out
        rw [anyO_drop hkx] at hd
        generalize L.getD k 0 = x at *
        have hO := fun w => otherLetter_any x w
        generalize fourL.contains x = q at *
        have HD := Lib.hid hd
        clear hd ha hkx
        cases q with
        | false =>
          go_wp2_with fail
          refine (hO _).mono ?_; rintro e w1 ⟨rfl, hb1⟩
          have hbw1 := nx hbw hb1
          clear hbw hb1 c1
          go_wp2_with fail
          go_ret
          exact ⟨_, rfl, by rw [HD.out]; simp, hbw1⟩
        | true =>
          have HD2 : Hid (L.any (fun x => !fourL.contains x) = (L.drop (k + 1)).any (fun x => !fourL.contains x)) := Lib.hid (HD.out.trans (Bool.false_or _))
          clear HD
          go_wp2_with fail
          refine (hO _).mono ?_; rintro e w1 ⟨rfl, hb1⟩
          have hbw1 := nx hbw hb1
          clear hbw hb1 c1
          go_wp2_with fail
          go_roundw
          case rel => exact ⟨k + 1, by omega, by go_num, HD2, hbw1⟩
          case measure => simp [intOf]; omega
      · obtain rfl : k = n := by omega
        have hd := ha.out
        rw [List.drop_of_length_le (by have := HN.out; omega)] at hd
        have HD := Lib.hid hd
        clear hd ha
        go_wp2_with fail
        go_ret
        exact ⟨_, rfl, by rw [HD.out]; rfl, hbw⟩
set_option maxRecDepth 100000 in
theorem containsOther_any (v : Value) (b1 : Nat) (L : List Int) (w : World) (hv : CellsI b1 w v L)
    (hcall : ∀ (args : Array Value) (w : World), (callFunc 109 args).run Try.prog w = .ok (.enter 109 args) w) :
    Calls Try.prog 112 #[v, .func (Fn.func 109) #[] #[]] w (Gives (.bool (!isW 2 L)) w) := by
  have hI := indexOther_any v b1 L w hv hcall
  rw [any_isW] at hI
  generalize (!isW 2 L) = q at *
  have HI := Lib.hid hI
  clear hI
  go_enter Try.func112, Try.ntmps112
  go_wp2_with fail
  refine HI.out.mono ?_; rintro e w1 ⟨z, rfl, hz, hb1⟩
  go_wp2_with fail
  go_ret
  exact ⟨by rw [← hz]; rfl, hb1⟩
set_option maxRecDepth 100000 in
theorem isTwoWord_any (v : Value) (b1 : Nat) (L : List Int) (w : World) (hv : CellsI b1 w v L) :
    Calls Try.prog 78 #[v] w (Gives (.bool (twoB L)) w) := by
  have hcall : ∀ (args : Array Value) (w : World), (callFunc 109 args).run Try.prog w = .ok (.enter 109 args) w := fun _ _ => by kernel_rfl
  have hC := containsOther_any v b1 L w hv hcall
  obtain ⟨oa, cap, rfl, hcl, hcm, _⟩ := hv.form
  unfold maxLen at hcm
  unfold twoB
  by_cases hl : L.length ≤ 20
  · rw [decide_eq_true hl, Bool.true_and]
    have hl' : (L.length : Int) ≤ 20 := by omega
    generalize isW 2 L = q at *
    have HC := Lib.hid hC
    clear hC hv
    go_enter Try.func78, Try.ntmps78
    go_wp2_with fail
    refine HC.out.mono ?_; rintro e w1 ⟨rfl, hb1⟩
    go_wp2_with fail
    go_ret
    exact ⟨by simp, hb1⟩
  · rw [decide_eq_false hl, Bool.false_and]
    have hl' : ¬ (L.length : Int) ≤ 20 := by omega
    clear hC hv
    go_enter Try.func78, Try.ntmps78
    go_wp2_with fail
    go_ret
    exact ⟨rfl, Below.refl _ _⟩

end Go.Proofs.Ytkpganpojdboeaa

/-! RedBy2 -/
namespace Go.Proofs.Ytkpganpojdboeaa
open Go.RowKit

/-- A block of one cell. -/
theorem one_cell {w : World} {g : Nat} {u : Value} {t : TypeId} (h : w.heap[g]? = some (.cells #[u] t (0, 0))) : w.cell? ⟨g, 0, none⟩ = some u ∧ w.frozen? ⟨g, 0, none⟩ = false := by
  simp [World.cell?, World.frozen?, h]
theorem set_one {w : World} {g : Nat} {u : Value} (u' : Value) {t : TypeId} (h : w.heap[g]? = some (.cells #[u] t (0, 0))) : (w.setCell ⟨g, 0, none⟩ u').heap[g]? = some (.cells #[u'] t (0, 0)) := Joins.block_setCell h u'


/-- Every block that was there, but for one, stands as it stood. -/
def Mild (b : Nat) (w w' : World) : Prop := ∀ k, k < w.heap.size → k ≠ b → w'.heap[k]? = w.heap[k]?
theorem Mild.below {b : Nat} {w w1 w2 : World} (h : Mild b w w1) (hs : w.heap.size ≤ w1.heap.size) (hb : Below w1.heap.size w1 w2) : Mild b w w2 :=
  fun k hk hn => (hb.block k (Nat.lt_of_lt_of_le hk hs)).trans (h k hk hn)
theorem Mild.setCell {b : Nat} {w w1 : World} (h : Mild b w w1) {a : Addr} (ha : a.block = b ∨ w.heap.size ≤ a.block) (u : Value) : Mild b w (w1.setCell a u) :=
  fun k hk hn => (Below.heap_setCell w1 a u k (by rcases ha with ha | ha <;> omega)).trans (h k hk hn)

end Go.Proofs.Ytkpganpojdboeaa

/-! RedByS -/
namespace Go.Proofs.Ytkpganpojdboeaa
open Go.RowKit

/-- Are these choices? -/
def choB (cs : List Int) : Bool := decide (cs.length ≤ 20) && cs.all fun c => decide (0 ≤ c)
theorem choB_all {cs : List Int} (h : choB cs = true) : cs.length ≤ 20 ∧ ∀ c ∈ cs, 0 ≤ c := by
  unfold choB at h
  simp only [Bool.and_eq_true, decide_eq_true_eq, List.all_eq_true] at h
  exact h
theorem all_drop {cs : List Int} {k : Nat} (h : k < cs.length) : (cs.drop k).all (fun c => decide (0 ≤ c)) = (decide (0 ≤ cs.getD k 0) && (cs.drop (k + 1)).all fun c => decide (0 ≤ c)) := by
  rw [List.drop_eq_getElem_cons h, List.all_cons]
  simp [h]

/-- Of texts, the answer of ReduceBy. -/
def redO (a b : ByteArray) (cs : List Int) : Option Pr := (pairOf a b).bind fun p => if choB cs = true then some (redBy p cs) else none

theorem CellsI.keep {b1 : Nat} {w w' : World} {v : Value} {xs : List Int} (h : CellsI b1 w v xs) (hb : Below w.heap.size w w') : CellsI b1 w' v xs := by
  rcases h with h | ⟨g, cap, h1, h2, h3, h4, h5, h6, h7⟩
  · exact .inl h
  · exact .inr ⟨g, cap, h1, h2, Nat.lt_of_lt_of_le h3 hb.size, h4, h5, fun i hi => (hb.cell (p := ⟨g, i, none⟩) h3).trans (h6 i hi), fun i => (hb.frozen (p := ⟨g, i, none⟩) h3).trans (h7 i)⟩

end Go.Proofs.Ytkpganpojdboeaa
