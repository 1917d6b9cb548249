/- FnExactConjugatePair: for every input the law returns true and leaves its arguments as they were. No conditions. -/
import Derived.Test.YtkpganpojdboeaaMgConjugatePair1
import Derived.ProofKit
import Derived.OpenShut
import Derived.ShutString
import Derived.ChangeOld
import Derived.Below
import Derived.Lib.SmallJoins
/-! EqP -/
namespace Go.Proofs.Ytkpganpojdboeaa

theorem red_first0 {p : Pr} (hl : 0 < (both p).length) : red p = red (dropP p ((both p).getD 0 0)) := by
  cases h : both p with
  | nil => rw [h] at hl; simp at hl
  | cons n ns =>
    have := redBy_step h []
    exact this
theorem mem_nd {x y : Tr} {n : Int} (h : ¬ (x = .lf ∧ y = .lf)) : n ∈ (Tr.nd x y).exps 0 ↔ n ∈ x.exps 0 ∨ n - x.leaves ∈ y.exps 0 := by
  have hb : (x.isLf && y.isLf) = false := by
    rw [Bool.eq_false_iff]
    exact fun e => h (both_lf e)
  rw [Tr.exps, hb]
  simp only [Bool.false_eq_true, if_false, List.nil_append, List.mem_append, Int.zero_add]
  rw [exps_shift_mem y]
theorem exps_ne {x : Tr} {n : Int} (h : n ∈ x.exps 0) : x ≠ .lf := by
  intro e
  rw [e] at h
  simp [Tr.exps] at h
theorem mem_left {x y : Tr} {n : Int} (h : n ∈ x.exps 0) : n ∈ (Tr.nd x y).exps 0 := (mem_nd (fun e => exps_ne h e.1)).2 (.inl h)
theorem mem_right {x y : Tr} {n : Int} (h : n - x.leaves ∈ y.exps 0) : n ∈ (Tr.nd x y).exps 0 := (mem_nd (fun e => exps_ne h e.2)).2 (.inr h)
theorem drop_left {x y : Tr} {n : Int} (h : n ∈ x.exps 0) : (Tr.nd x y).dropAt n = .nd (x.dropAt n) y := by
  have hb : (x.isLf && y.isLf) = false := by
    rw [Bool.eq_false_iff]
    exact fun e => exps_ne h (both_lf e).1
  have := exps_range x 0 n h
  rw [Tr.dropAt, hb, if_neg (by simp), if_pos (by omega)]
theorem drop_right {x y : Tr} {n : Int} (h : n - x.leaves ∈ y.exps 0) : (Tr.nd x y).dropAt n = .nd x (y.dropAt (n - x.leaves)) := by
  have hb : (x.isLf && y.isLf) = false := by
    rw [Bool.eq_false_iff]
    exact fun e => exps_ne h (both_lf e).2
  have := exps_range y 0 _ h
  rw [Tr.dropAt, hb, if_neg (by simp), if_neg (by omega)]
theorem mem_cases {x y : Tr} {n : Int} (h : n ∈ (Tr.nd x y).exps 0) : (x = .lf ∧ y = .lf ∧ n = 0) ∨ n ∈ x.exps 0 ∨ n - x.leaves ∈ y.exps 0 := by
  by_cases e : x = .lf ∧ y = .lf
  · obtain ⟨rfl, rfl⟩ := e
    simp [Tr.exps, Tr.isLf] at h
    exact .inl ⟨rfl, rfl, h⟩
  · exact .inr ((mem_nd e).1 h)
theorem drop_leaves {t : Tr} {n : Int} (h : n ∈ t.exps 0) : ((t.dropAt n).leaves : Int) = t.leaves - 1 := by
  have := dropAt_carets t n h
  unfold Tr.leaves
  omega

/-- Two exposed carets are dropped in either order. -/
theorem drop_two (t : Tr) : ∀ n m : Int, n ∈ t.exps 0 → m ∈ t.exps 0 → n < m →
    n ∈ (t.dropAt m).exps 0 ∧ m - 1 ∈ (t.dropAt n).exps 0 ∧ (t.dropAt m).dropAt n = (t.dropAt n).dropAt (m - 1) := by
  induction t with
  | lf => intro n m h; simp [Tr.exps] at h
  | nd x y ihx ihy =>
    intro n m hn hm hlt
    rcases mem_cases hn with ⟨rfl, rfl, rfl⟩ | hn | hn
    · rcases mem_cases hm with ⟨_, _, rfl⟩ | hm | hm
      · omega
      · simp [Tr.exps] at hm
      · simp [Tr.exps] at hm
    · rcases mem_cases hm with ⟨rfl, _, _⟩ | hm | hm
      · exact absurd rfl (exps_ne hn)
      · obtain ⟨h1, h2, h3⟩ := ihx n m hn hm hlt
        rw [drop_left hm, drop_left hn, drop_left h1, drop_left h2, h3]
        exact ⟨mem_left h1, mem_left h2, rfl⟩
      · have hl := drop_leaves hn
        have hr : m - 1 - ((x.dropAt n).leaves : Int) = m - x.leaves := by omega
        rw [drop_right hm, drop_left hn, drop_left hn, drop_right (by rw [hr]; exact hm), hr]
        exact ⟨mem_left hn, mem_right (by rw [hr]; exact hm), rfl⟩
    · rcases mem_cases hm with ⟨_, rfl, _⟩ | hm | hm
      · exact absurd rfl (exps_ne hn)
      · have h1 := exps_range x 0 m hm
        have h2 := exps_range y 0 _ hn
        omega
      · obtain ⟨h1, h2, h3⟩ := ihy _ _ hn hm (by omega)
        have e : m - 1 - (x.leaves : Int) = m - x.leaves - 1 := by omega
        rw [drop_right hm, drop_right hn, drop_right h1, drop_right (by rw [e]; exact h2), e, h3]
        exact ⟨mem_right h1, mem_right (by rw [e]; exact h2), rfl⟩

theorem both_two {p : Pr} {n m : Int} (hn : n ∈ both p) (hm : m ∈ both p) (h : n < m) :
    n ∈ both (dropP p m) ∧ m - 1 ∈ both (dropP p n) ∧ dropP (dropP p m) n = dropP (dropP p n) (m - 1) := by
  rw [mem_both] at hn hm
  obtain ⟨a1, a2, a3⟩ := drop_two p.1 n m hn.1 hm.1 h
  obtain ⟨b1, b2, b3⟩ := drop_two p.2 n m hn.2 hm.2 h
  exact ⟨mem_both.2 ⟨a1, b1⟩, mem_both.2 ⟨a2, b2⟩, by unfold dropP; dsimp only; rw [a3, b3]⟩

/-- Whatever is dropped first, the same reduced pair is left. -/
theorem red_drop : ∀ (k : Nat) (p : Pr), p.1.carets = k → ∀ n, n ∈ both p → red (dropP p n) = red p := by
  intro k
  induction k using Nat.strongRecOn with
  | _ k ih =>
    intro p hk n hn
    have hl : 0 < (both p).length := List.length_pos_of_mem hn
    have h0 := red_first0 hl
    have hm : (both p).getD 0 0 ∈ both p := by
      cases hb : both p with
      | nil => rw [hb] at hl; simp at hl
      | cons a l => simp
    generalize (both p).getD 0 0 = m at h0 hm
    rw [h0]
    have c1 := dropP_carets hn
    have c2 := dropP_carets hm
    rcases Int.lt_trichotomy n m with h | h | h
    · obtain ⟨h1, h2, h3⟩ := both_two hn hm h
      rw [← ih (dropP p m).1.carets (by omega) _ rfl n h1, ← ih (dropP p n).1.carets (by omega) _ rfl (m - 1) h2, h3]
    · rw [h]
    · obtain ⟨h1, h2, h3⟩ := both_two hm hn h
      rw [← ih (dropP p n).1.carets (by omega) _ rfl m h1, ← ih (dropP p m).1.carets (by omega) _ rfl (n - 1) h2, h3]

theorem fillR_app (t : Tr) : ∀ us vs : List Tr, us.length = t.leaves → t.fillR (us ++ vs) = (t.fill us, vs) := by
  induction t with
  | lf =>
    intro us vs h
    match us, h with
    | [u], _ => rfl
    | [], h => simp [Tr.leaves] at h
    | _ :: _ :: _, h => simp [Tr.leaves, Tr.carets] at h
  | nd l r ihl ihr =>
    intro us vs h
    rw [leaves_nd] at h
    have hA : (us.take l.leaves).length = l.leaves := by rw [List.length_take]; omega
    have hB : (us.drop l.leaves).length = r.leaves := by rw [List.length_drop]; omega
    have e := List.take_append_drop l.leaves us
    generalize us.take l.leaves = A at *
    generalize us.drop l.leaves = B at *
    subst e
    have h1 := ihl A (B ++ vs) hA
    have h2 := ihr B vs hB
    have h3 := ihl A B hA
    have h4 := ihr B [] hB
    rw [List.append_nil] at h4
    have e : Tr.fill (.nd l r) (A ++ B) = .nd (l.fill A) (r.fill B) := by
      show Tr.nd (l.fillR (A ++ B)).1 (r.fillR (l.fillR (A ++ B)).2).1 = _
      rw [h3, h4]
    rw [e, Tr.fillR, List.append_assoc, h1, h2]
theorem fill_nd {l r : Tr} {A B : List Tr} (hA : A.length = l.leaves) (hB : B.length = r.leaves) : Tr.fill (.nd l r) (A ++ B) = .nd (l.fill A) (r.fill B) := by
  have h3 := fillR_app l A B hA
  have h4 := fillR_app r B [] hB
  rw [List.append_nil] at h4
  show Tr.nd (l.fillR (A ++ B)).1 (r.fillR (l.fillR (A ++ B)).2).1 = _
  rw [h3, h4]
theorem fill_lf (u : Tr) : Tr.fill .lf [u] = u := rfl
/-- Leaves of a list of trees. -/
def sumL (us : List Tr) : Nat := (us.map Tr.leaves).sum
theorem sumL_cons (u : Tr) (us : List Tr) : sumL (u :: us) = u.leaves + sumL us := by simp [sumL]
theorem sumL_append (us vs : List Tr) : sumL (us ++ vs) = sumL us + sumL vs := by simp [sumL]
theorem sumL_eq (us : List Tr) : sumL us = sumC us + us.length := by
  induction us with
  | nil => rfl
  | cons u us ih => rw [sumL_cons, sumC_cons, ih, List.length_cons]; unfold Tr.leaves; omega
theorem fill_leaves {t : Tr} {us : List Tr} (h : us.length = t.leaves) : (t.fill us).leaves = sumL us := by
  rw [sumL_eq, h]
  unfold Tr.leaves
  rw [fill_carets t us h]
  omega
/-- The list of a caret's leaves, parted. -/
theorem partsT {l r : Tr} {us : List Tr} (h : us.length = (Tr.nd l r).leaves) : ∃ A B, us = A ++ B ∧ A.length = l.leaves ∧ B.length = r.leaves := by
  rw [leaves_nd] at h
  exact ⟨us.take l.leaves, us.drop l.leaves, (List.take_append_drop _ _).symm, by rw [List.length_take]; omega, by rw [List.length_drop]; omega⟩

/-- An exposed caret that was filled in. -/
theorem fill_drop (t : Tr) : ∀ (ps : List Tr) (u : Tr) (bs : List Tr) (m : Int), (ps ++ u :: bs).length = t.leaves → m ∈ u.exps 0 →
    ((sumL ps : Int) + m) ∈ (t.fill (ps ++ u :: bs)).exps 0 ∧ (t.fill (ps ++ u :: bs)).dropAt ((sumL ps : Int) + m) = t.fill (ps ++ u.dropAt m :: bs) := by
  induction t with
  | lf =>
    intro ps u bs m h hm
    match ps, bs, h with
    | [], [], _ =>
      have e : ((sumL [] : Nat) : Int) + m = m := by simp [sumL]
      rw [e]
      exact ⟨hm, rfl⟩
    | [], _ :: _, h => simp [Tr.leaves, Tr.carets] at h
    | _ :: _, _, h => simp [Tr.leaves, Tr.carets] at h
  | nd l r ihl ihr =>
    intro ps u bs m h hm
    rw [leaves_nd, List.length_append, List.length_cons] at h
    by_cases hlt : ps.length < l.leaves
    · have hb1 : (bs.take (l.leaves - ps.length - 1)).length = l.leaves - ps.length - 1 := by rw [List.length_take]; omega
      have hb2 : (bs.drop (l.leaves - ps.length - 1)).length = r.leaves := by rw [List.length_drop]; omega
      have e := List.take_append_drop (l.leaves - ps.length - 1) bs
      generalize bs.take (l.leaves - ps.length - 1) = b1 at *
      generalize bs.drop (l.leaves - ps.length - 1) = b2 at *
      subst e
      have hA : ∀ v : Tr, (ps ++ v :: b1).length = l.leaves := by intro v; rw [List.length_append, List.length_cons]; omega
      have ee : ∀ v : Tr, ps ++ v :: (b1 ++ b2) = (ps ++ v :: b1) ++ b2 := by intro v; simp
      obtain ⟨h1, h2⟩ := ihl ps u b1 m (hA u) hm
      rw [ee, ee, fill_nd (hA _) hb2, fill_nd (hA _) hb2, drop_left h1, h2]
      exact ⟨mem_left h1, rfl⟩
    · have ha1 : (ps.take l.leaves).length = l.leaves := by rw [List.length_take]; omega
      have ha2 : (ps.drop l.leaves).length + l.leaves = ps.length := by rw [List.length_drop]; omega
      have e := List.take_append_drop l.leaves ps
      generalize ps.take l.leaves = a1 at *
      generalize ps.drop l.leaves = a2 at *
      subst e
      have hB : ∀ v : Tr, (a2 ++ v :: bs).length = r.leaves := by intro v; rw [List.length_append, List.length_cons]; omega
      have ee : ∀ v : Tr, a1 ++ a2 ++ v :: bs = a1 ++ (a2 ++ v :: bs) := by intro v; simp
      obtain ⟨h1, h2⟩ := ihr a2 u bs m (hB u) hm
      have hl := fill_leaves ha1
      have es : ((sumL (a1 ++ a2) : Nat) : Int) + m - ((l.fill a1).leaves : Int) = (sumL a2 : Int) + m := by rw [sumL_append, hl]; omega
      rw [ee, ee, fill_nd ha1 (hB _), fill_nd ha1 (hB _), drop_right (by rw [es]; exact h1), es, h2]
      exact ⟨mem_right (by rw [es]; exact h1), rfl⟩

theorem ex_exps (t : Tr) : 0 < t.carets → ∃ m, m ∈ t.exps 0 := by
  induction t with
  | lf => intro h; simp [Tr.carets] at h
  | nd x y ihx ihy =>
    intro _
    by_cases hx : 0 < x.carets
    · obtain ⟨m, hm⟩ := ihx hx
      exact ⟨m, mem_left hm⟩
    · by_cases hy : 0 < y.carets
      · obtain ⟨m, hm⟩ := ihy hy
        exact ⟨m + x.leaves, mem_right (by rw [show m + (x.leaves : Int) - x.leaves = m by omega]; exact hm)⟩
      · have e1 : x = .lf := by cases x with
          | lf => rfl
          | nd _ _ => simp [Tr.carets] at hx
        have e2 : y = .lf := by cases y with
          | lf => rfl
          | nd _ _ => simp [Tr.carets] at hy
        subst e1; subst e2
        exact ⟨0, by simp [Tr.exps, Tr.isLf]⟩
theorem fill_lfs (t : Tr) : t.fill (List.replicate t.leaves .lf) = t := by
  induction t with
  | lf => rfl
  | nd l r ihl ihr => rw [leaves_nd, ← List.replicate_append_replicate, fill_nd (by simp) (by simp), ihl, ihr]
theorem all_lf (us : List Tr) (h : sumC us = 0) : us = List.replicate us.length .lf := by
  induction us with
  | nil => rfl
  | cons u us ih =>
    rw [sumC_cons] at h
    rw [List.length_cons, List.replicate_succ, ← ih (by omega)]
    cases u with
    | lf => rfl
    | nd _ _ => simp [Tr.carets] at h
theorem ex_caret (us : List Tr) : 0 < sumC us → ∃ ps u bs, us = ps ++ u :: bs ∧ 0 < u.carets := by
  induction us with
  | nil => intro h; simp [sumC] at h
  | cons u us ih =>
    intro h
    by_cases hu : 0 < u.carets
    · exact ⟨[], u, us, rfl, hu⟩
    · rw [sumC_cons] at h
      obtain ⟨ps, v, bs, rfl, hv⟩ := ih (by omega)
      exact ⟨u :: ps, v, bs, rfl, hv⟩
/-- A pair with trees at its leaves. -/
def expE (p : Pr) (us : List Tr) : Pr := (p.1.fill us, p.2.fill us)
theorem red_expE {p : Pr} (hp : okP p) : ∀ (k : Nat) (us : List Tr), sumC us = k → us.length = p.1.leaves → red (expE p us) = red p := by
  have hq : p.1.leaves = p.2.leaves := by unfold okP at hp; unfold Tr.leaves; omega
  intro k
  induction k with
  | zero =>
    intro us h hl
    have e := all_lf us h
    rw [hl] at e
    have : expE p us = p := by
      unfold expE
      rw [e, fill_lfs, hq, fill_lfs]
    rw [this]
  | succ k ih =>
    intro us h hl
    obtain ⟨ps, u, bs, rfl, hu⟩ := ex_caret us (by omega)
    obtain ⟨m, hm⟩ := ex_exps u hu
    obtain ⟨a1, a2⟩ := fill_drop p.1 ps u bs m hl hm
    obtain ⟨b1, b2⟩ := fill_drop p.2 ps u bs m (by omega) hm
    have hb : ((sumL ps : Int) + m) ∈ both (expE p (ps ++ u :: bs)) := mem_both.2 ⟨a1, b1⟩
    have hd : dropP (expE p (ps ++ u :: bs)) ((sumL ps : Int) + m) = expE p (ps ++ u.dropAt m :: bs) := by
      unfold dropP expE
      dsimp only
      rw [a2, b2]
    have hc := dropAt_carets u m hm
    rw [← red_drop _ _ rfl _ hb, hd]
    refine ih _ ?_ ?_
    · rw [sumC_append, sumC_cons] at h ⊢; omega
    · rw [← hl]; simp

/-- Trees with trees at their leaves. -/
def compT : List Tr → List Tr → List Tr
  | [], _ => []
  | u :: us, vs => u.fill (vs.take u.leaves) :: compT us (vs.drop u.leaves)
theorem compT_length (us : List Tr) : ∀ vs, (compT us vs).length = us.length := by
  induction us with
  | nil => intro vs; rfl
  | cons u us ih => intro vs; simp [compT, ih]
theorem compT_append (A : List Tr) : ∀ (B V W : List Tr), V.length = sumL A → compT (A ++ B) (V ++ W) = compT A V ++ compT B W := by
  induction A with
  | nil => intro B V W h; obtain rfl : V = [] := List.length_eq_zero_iff.1 (by simpa [sumL] using h); rfl
  | cons u A ih =>
    intro B V W h
    rw [sumL_cons] at h
    rw [List.cons_append, compT, compT, List.take_append_of_le_length (by omega), List.drop_append_of_le_length (by omega), ih _ _ _ (by rw [List.length_drop]; omega)]
    rfl
theorem fill_comp (t : Tr) : ∀ us vs : List Tr, us.length = t.leaves → vs.length = sumL us → t.fill (compT us vs) = (t.fill us).fill vs := by
  induction t with
  | lf =>
    intro us vs h hv
    match us, h with
    | [u], _ =>
      simp [sumL] at hv
      show Tr.fill .lf [u.fill (vs.take u.leaves)] = u.fill vs
      rw [fill_lf, List.take_of_length_le (by omega)]
    | [], h => simp [Tr.leaves] at h
    | _ :: _ :: _, h => simp [Tr.leaves, Tr.carets] at h
  | nd l r ihl ihr =>
    intro us vs h hv
    obtain ⟨A, B, rfl, hA, hB⟩ := partsT h
    rw [sumL_append] at hv
    have hV : (vs.take (sumL A)).length = sumL A := by rw [List.length_take]; omega
    have hW : (vs.drop (sumL A)).length = sumL B := by rw [List.length_drop]; omega
    have e := List.take_append_drop (sumL A) vs
    generalize vs.take (sumL A) = V at *
    generalize vs.drop (sumL A) = W at *
    subst e
    rw [compT_append _ _ _ _ hV, fill_nd (by rw [compT_length, hA]) (by rw [compT_length, hB]), fill_nd hA hB, fill_nd (by rw [hV, fill_leaves hA]) (by rw [hW, fill_leaves hB]), ihl A V hA hV, ihr B W hB hW]
theorem fill_subs (a : Tr) : ∀ g : Tr, a.part g = true → a.fill (a.subs g) = g := by
  induction a with
  | lf => intro g h; rfl
  | nd l r ihl ihr =>
    intro g h
    cases g with
    | lf => simp [Tr.part] at h
    | nd p q =>
      simp [Tr.part] at h
      rw [Tr.subs, fill_nd (below_carets l p h.1).2 (below_carets r q h.2).2, ihl p h.1, ihr q h.2]
theorem subs_fill (a : Tr) : ∀ us : List Tr, us.length = a.leaves → a.part (a.fill us) = true ∧ a.subs (a.fill us) = us := by
  induction a with
  | lf =>
    intro us h
    match us, h with
    | [u], _ => exact ⟨rfl, rfl⟩
    | [], h => simp [Tr.leaves] at h
    | _ :: _ :: _, h => simp [Tr.leaves, Tr.carets] at h
  | nd l r ihl ihr =>
    intro us h
    obtain ⟨A, B, rfl, hA, hB⟩ := partsT h
    rw [fill_nd hA hB]
    have h1 := ihl A hA
    have h2 := ihr B hB
    exact ⟨by simp [Tr.part, h1.1, h2.1], by rw [Tr.subs, h1.2, h2.2]⟩
theorem join_least (a : Tr) : ∀ b g : Tr, a.part g = true → b.part g = true → (a.join b).part g = true := by
  induction a with
  | lf => intro b g h k; exact k
  | nd l r ihl ihr =>
    intro b g h k
    cases b with
    | lf => exact h
    | nd p q =>
      cases g with
      | lf => simp [Tr.part] at h
      | nd x y =>
        simp [Tr.part] at h k
        simp [Tr.join, Tr.part, ihl p x h.1 k.1, ihr q y h.2 k.2]
theorem okP_leaves {p : Pr} (hp : okP p) : p.1.leaves = p.2.leaves := by unfold okP at hp; unfold Tr.leaves; omega
/-- The product by any tree in the middle. -/
theorem mulP_any {p q : Pr} (hp : okP p) (hq : okP q) {S T : List Tr} (hS : S.length = p.2.leaves) (hT : T.length = q.1.leaves) (h : p.2.fill S = q.1.fill T) :
    red (p.1.fill S, q.2.fill T) = mulP p q := by
  have hJ : (p.2.join q.1).part (p.2.fill S) = true := join_least _ _ _ (subs_fill p.2 S hS).1 (by rw [h]; exact (subs_fill q.1 T hT).1)
  have hU := below_carets _ _ hJ
  have hg := fill_subs _ _ hJ
  generalize (p.2.join q.1).subs (p.2.fill S) = U at hU hg
  have s1 := below_carets p.2 _ (part_join p.2 q.1)
  have s2 := below_carets q.1 _ (part_join' p.2 q.1)
  have f1 := fill_subs p.2 _ (part_join p.2 q.1)
  have f2 := fill_subs q.1 _ (part_join' p.2 q.1)
  have o1 := okP_leaves hp
  have o2 := okP_leaves hq
  have l1 : sumL (p.2.subs (p.2.join q.1)) = (p.2.join q.1).leaves := by rw [← fill_leaves s1.2, f1]
  have l2 : sumL (q.1.subs (p.2.join q.1)) = (p.2.join q.1).leaves := by rw [← fill_leaves s2.2, f2]
  unfold mulP
  have hr : rawP p q = (p.1.fill (p.2.subs (p.2.join q.1)), q.2.fill (q.1.subs (p.2.join q.1))) := rfl
  have c1 : compT (p.2.subs (p.2.join q.1)) U = S := by
    rw [← (subs_fill p.2 S hS).2, ← hg, ← (subs_fill p.2 (compT (p.2.subs (p.2.join q.1)) U) (by rw [compT_length, s1.2])).2, fill_comp _ _ _ s1.2 (by rw [hU.2, l1]), f1]
  have c2 : compT (q.1.subs (p.2.join q.1)) U = T := by
    rw [← (subs_fill q.1 T hT).2, ← h, ← hg, ← (subs_fill q.1 (compT (q.1.subs (p.2.join q.1)) U) (by rw [compT_length, s2.2])).2, fill_comp _ _ _ s2.2 (by rw [hU.2, l2]), f2]
  have e : (p.1.fill S, q.2.fill T) = expE (rawP p q) U := by
    rw [hr, ← c1, ← c2]
    unfold expE
    dsimp only
    rw [fill_comp _ _ _ (by rw [s1.2, o1]) (by rw [hU.2, l1]), fill_comp _ _ _ (by rw [s2.2, o2]) (by rw [hU.2, l2])]
  have hok : okP (rawP p q) := by
    have k1 := fill_leaves (t := p.1) (us := p.2.subs (p.2.join q.1)) (by rw [s1.2, o1])
    have k2 := fill_leaves (t := q.2) (us := q.1.subs (p.2.join q.1)) (by rw [s2.2, o2])
    rw [hr]
    unfold okP
    dsimp only
    rw [l1] at k1
    rw [l2] at k2
    unfold Tr.leaves at k1 k2
    omega
  rw [e]
  refine red_expE hok _ U rfl ?_
  rw [hU.2, hr]
  dsimp only
  rw [fill_leaves (by rw [s1.2, o1]), l1]

theorem expE_ok {p : Pr} (hp : okP p) {V : List Tr} (hV : V.length = p.1.leaves) : okP (expE p V) := by
  have o1 := okP_leaves hp
  have k1 := fill_leaves (t := p.1) (us := V) hV
  have k2 := fill_leaves (t := p.2) (us := V) (by omega)
  unfold okP expE
  dsimp only
  unfold Tr.leaves at k1 k2
  omega
theorem mulP_expL {p q : Pr} (hp : okP p) (hq : okP q) {V : List Tr} (hV : V.length = p.1.leaves) : mulP (expE p V) q = mulP p q := by
  have o1 := okP_leaves hp
  have s1 := below_carets (expE p V).2 _ (part_join (expE p V).2 q.1)
  have s2 := below_carets q.1 _ (part_join' (expE p V).2 q.1)
  have f1 := fill_subs (expE p V).2 _ (part_join (expE p V).2 q.1)
  have f2 := fill_subs q.1 _ (part_join' (expE p V).2 q.1)
  have hl : (expE p V).2.leaves = sumL V := fill_leaves (by omega)
  unfold mulP
  have hr : rawP (expE p V) q = ((expE p V).1.fill ((expE p V).2.subs ((expE p V).2.join q.1)), q.2.fill (q.1.subs ((expE p V).2.join q.1))) := rfl
  generalize (expE p V).2.subs ((expE p V).2.join q.1) = S at *
  generalize q.1.subs ((expE p V).2.join q.1) = T at *
  have e1 : (expE p V).1.fill S = p.1.fill (compT V S) := (fill_comp _ _ _ hV (by rw [s1.2, hl])).symm
  have e2 : (expE p V).2.fill S = p.2.fill (compT V S) := (fill_comp _ _ _ (by omega) (by rw [s1.2, hl])).symm
  rw [hr, e1]
  exact mulP_any hp hq (by rw [compT_length]; omega) s2.2 (by rw [← e2, f1, f2])
theorem mulP_expR {p q : Pr} (hp : okP p) (hq : okP q) {V : List Tr} (hV : V.length = q.1.leaves) : mulP p (expE q V) = mulP p q := by
  have o1 := okP_leaves hq
  have s1 := below_carets p.2 _ (part_join p.2 (expE q V).1)
  have s2 := below_carets (expE q V).1 _ (part_join' p.2 (expE q V).1)
  have f1 := fill_subs p.2 _ (part_join p.2 (expE q V).1)
  have f2 := fill_subs (expE q V).1 _ (part_join' p.2 (expE q V).1)
  have hl : (expE q V).1.leaves = sumL V := fill_leaves hV
  unfold mulP
  have hr : rawP p (expE q V) = (p.1.fill (p.2.subs (p.2.join (expE q V).1)), (expE q V).2.fill ((expE q V).1.subs (p.2.join (expE q V).1))) := rfl
  generalize p.2.subs (p.2.join (expE q V).1) = S at *
  generalize (expE q V).1.subs (p.2.join (expE q V).1) = T at *
  have e1 : (expE q V).1.fill T = q.1.fill (compT V T) := (fill_comp _ _ _ hV (by rw [s2.2, hl])).symm
  have e2 : (expE q V).2.fill T = q.2.fill (compT V T) := (fill_comp _ _ _ (by omega) (by rw [s2.2, hl])).symm
  rw [hr, e2]
  exact mulP_any hp hq s1.2 (by rw [compT_length]; omega) (by rw [← e1, f1, f2])

/-- So many leaves, but for a caret at one of them. -/
def bump (k n : Nat) : List Tr := List.replicate n .lf ++ .nd .lf .lf :: List.replicate (k - n - 1) .lf
theorem bump_length {k n : Nat} (h : n < k) : (bump k n).length = k := by simp [bump]; omega
theorem drop_fill (t : Tr) : ∀ n : Int, n ∈ t.exps 0 → (t.dropAt n).fill (bump (t.dropAt n).leaves n.toNat) = t := by
  induction t with
  | lf => intro n h; simp [Tr.exps] at h
  | nd x y ihx ihy =>
    intro n hn
    have hrg := exps_range _ 0 n hn
    rcases mem_cases hn with ⟨rfl, rfl, rfl⟩ | hn | hn
    · rfl
    · have h1 := exps_range x 0 n hn
      have hl := drop_leaves hn
      rw [drop_left hn]
      have e : bump (Tr.nd (x.dropAt n) y).leaves n.toNat = bump (x.dropAt n).leaves n.toNat ++ List.replicate y.leaves .lf := by
        rw [leaves_nd]
        unfold bump
        rw [List.append_assoc, List.cons_append, List.replicate_append_replicate]
        congr 3
        omega
      rw [e, fill_nd (bump_length (by omega)) (by simp), ihx n hn, fill_lfs]
    · have h1 := exps_range y 0 _ hn
      have hl := drop_leaves hn
      rw [drop_right hn]
      have e : bump (Tr.nd x (y.dropAt (n - x.leaves))).leaves n.toNat = List.replicate x.leaves .lf ++ bump (y.dropAt (n - x.leaves)).leaves (n - x.leaves).toNat := by
        rw [leaves_nd]
        unfold bump
        rw [← List.append_assoc, List.replicate_append_replicate]
        congr 3 <;> omega
      rw [e, fill_nd (by simp) (bump_length (by omega)), ihy _ hn, fill_lfs]
theorem drop_exp {p : Pr} (hp : okP p) {n : Int} (h : n ∈ both p) : okP (dropP p n) ∧ ∃ V, V.length = (dropP p n).1.leaves ∧ expE (dropP p n) V = p := by
  have hc := dropP_carets h
  have ho : okP (dropP p n) := by unfold okP at *; omega
  obtain ⟨h1, h2⟩ := mem_both.1 h
  have r1 := exps_range p.1 0 n h1
  have l1 := drop_leaves h1
  refine ⟨ho, bump (dropP p n).1.leaves n.toNat, bump_length (by show n.toNat < (p.1.dropAt n).leaves; omega), ?_⟩
  unfold expE
  rw [show (dropP p n).1.fill (bump (dropP p n).1.leaves n.toNat) = p.1 from drop_fill p.1 n h1, okP_leaves ho, show (dropP p n).2.fill (bump (dropP p n).2.leaves n.toNat) = p.2 from drop_fill p.2 n h2]
/-- A pair is made by the reduced one with trees at its leaves. -/
theorem red_exp : ∀ (k : Nat) (p : Pr), p.1.carets = k → okP p → okP (red p) ∧ ∃ V, V.length = (red p).1.leaves ∧ expE (red p) V = p := by
  intro k
  induction k using Nat.strongRecOn with
  | _ k ih =>
    intro p hk hp
    by_cases hl : 0 < (both p).length
    · have h0 := red_first0 hl
      have hm : (both p).getD 0 0 ∈ both p := by
        cases hb : both p with
        | nil => rw [hb] at hl; simp at hl
        | cons a l => simp
      generalize (both p).getD 0 0 = m at h0 hm
      have c2 := dropP_carets hm
      obtain ⟨ho, V, hV, hE⟩ := drop_exp hp hm
      obtain ⟨hr, U, hU, hF⟩ := ih (dropP p m).1.carets (by omega) _ rfl ho
      rw [h0]
      have hUl : sumL U = (dropP p m).1.leaves := by rw [← fill_leaves hU]; exact congrArg (fun x : Pr => x.1.leaves) hF
      refine ⟨hr, compT U V, by rw [compT_length, hU], ?_⟩
      have o1 := okP_leaves hr
      have g1 := fill_comp (red (dropP p m)).1 U V hU (by rw [hV, hUl])
      have g2 := fill_comp (red (dropP p m)).2 U V (by omega) (by rw [hV, hUl])
      unfold expE
      rw [g1, g2]
      rw [show (red (dropP p m)).1.fill U = (dropP p m).1 from congrArg Prod.fst hF, show (red (dropP p m)).2.fill U = (dropP p m).2 from congrArg Prod.snd hF]
      exact hE
    · have hb : both p = [] := List.length_eq_zero_iff.1 (by omega)
      have hr := (red_self p).2 hb
      rw [hr]
      have o1 := okP_leaves hp
      refine ⟨hp, List.replicate p.1.leaves .lf, by simp, ?_⟩
      unfold expE
      rw [fill_lfs, o1, fill_lfs]
theorem mulP_redL {p q : Pr} (hp : okP p) (hq : okP q) : mulP (red p) q = mulP p q := by
  obtain ⟨hr, V, hV, hE⟩ := red_exp _ p rfl hp
  have := mulP_expL hr hq hV
  rw [hE] at this
  exact this.symm
theorem mulP_redR {p q : Pr} (hp : okP p) (hq : okP q) : mulP p (red q) = mulP p q := by
  obtain ⟨hr, V, hV, hE⟩ := red_exp _ q rfl hq
  have := mulP_expR hp hr hV
  rw [hE] at this
  exact this.symm
end Go.Proofs.Ytkpganpojdboeaa

/-! CjP -/
namespace Go.Proofs.Ytkpganpojdboeaa

theorem red_inv : ∀ (k : Nat) (p : Pr), p.1.carets = k → red (invP p) = invP (red p) := by
  intro k
  induction k using Nat.strongRecOn with
  | _ k ih =>
    intro p hk
    by_cases hl : 0 < (both p).length
    · have h0 := red_first0 hl
      have hm : (both p).getD 0 0 ∈ both p := by
        cases hb : both p with
        | nil => rw [hb] at hl; simp at hl
        | cons a l => simp
      generalize (both p).getD 0 0 = m at h0 hm
      have c2 := dropP_carets hm
      have hm' : m ∈ both (invP p) := mem_both.2 ⟨(mem_both.1 hm).2, (mem_both.1 hm).1⟩
      have e1 := red_drop _ (invP p) rfl m hm'
      have e2 := ih (dropP p m).1.carets (by omega) (dropP p m) rfl
      rw [h0, ← e2, ← e1]
      rfl
    · have hb : both p = [] := List.length_eq_zero_iff.1 (by omega)
      have hb' : both (invP p) = [] := by
        cases h : both (invP p) with
        | nil => rfl
        | cons a l =>
          have ha : a ∈ both (invP p) := by rw [h]; simp
          have : a ∈ both p := mem_both.2 ⟨(mem_both.1 ha).2, (mem_both.1 ha).1⟩
          rw [hb] at this; simp at this
      rw [(red_self p).2 hb, (red_self (invP p)).2 hb']
theorem raw_inv (p q : Pr) : rawP (invP q) (invP p) = invP (rawP p q) := by
  unfold rawP invP
  dsimp only
  rw [join_comm q.1 p.2]
theorem inv_mul (p q : Pr) : invP (mulP p q) = mulP (invP q) (invP p) := by
  unfold mulP
  rw [raw_inv, red_inv _ _ rfl]
theorem inv_ok {p : Pr} (h : okP p) : okP (invP p) := h.symm
theorem mul_assoc {p q r : Pr} (hp : okP p) (hq : okP q) (hr : okP r) : mulP (mulP p q) r = mulP p (mulP q r) := by
  have s1 := below_carets p.2 _ (part_join p.2 q.1)
  have s2 := below_carets q.1 _ (part_join' p.2 q.1)
  have f1 := fill_subs p.2 _ (part_join p.2 q.1)
  have f2 := fill_subs q.1 _ (part_join' p.2 q.1)
  have o1 := okP_leaves hp
  have o2 := okP_leaves hq
  have o3 := okP_leaves hr
  have hraw := rawP_ok hp hq
  have eR : rawP p q = (p.1.fill (p.2.subs (p.2.join q.1)), q.2.fill (q.1.subs (p.2.join q.1))) := rfl
  have l1 : sumL (p.2.subs (p.2.join q.1)) = (p.2.join q.1).leaves := by rw [← fill_leaves s1.2, f1]
  have l2 : sumL (q.1.subs (p.2.join q.1)) = (p.2.join q.1).leaves := by rw [← fill_leaves s2.2, f2]
  rw [show mulP p q = red (rawP p q) from rfl, mulP_redL hraw hr]
  generalize p.2.subs (p.2.join q.1) = S at *
  generalize q.1.subs (p.2.join q.1) = T at *
  generalize p.2.join q.1 = M at *
  have k1 : (p.1.fill S).leaves = M.leaves := by rw [fill_leaves (by rw [s1.2, o1]), l1]
  have k2 : (q.2.fill T).leaves = M.leaves := by rw [fill_leaves (by rw [s2.2, o2]), l2]
  have t1 := below_carets (q.2.fill T) _ (part_join (q.2.fill T) r.1)
  have t2 := below_carets r.1 _ (part_join' (q.2.fill T) r.1)
  have g1 := fill_subs (q.2.fill T) _ (part_join (q.2.fill T) r.1)
  have g2 := fill_subs r.1 _ (part_join' (q.2.fill T) r.1)
  generalize (q.2.fill T).subs ((q.2.fill T).join r.1) = U at *
  generalize r.1.subs ((q.2.fill T).join r.1) = V at *
  have n1 : sumL U = ((q.2.fill T).join r.1).leaves := by rw [← fill_leaves t1.2, g1]
  have n2 : sumL V = ((q.2.fill T).join r.1).leaves := by rw [← fill_leaves t2.2, g2]
  generalize (q.2.fill T).join r.1 = N at *
  have c1 := fill_comp p.1 S U (by rw [s1.2, o1]) (by rw [t1.2, k2, l1])
  have c2 := fill_comp p.2 S U s1.2 (by rw [t1.2, k2, l1])
  have c3 := fill_comp q.1 T U s2.2 (by rw [t1.2, k2, l2])
  have c4 := fill_comp q.2 T U (by rw [s2.2, o2]) (by rw [t1.2, k2, l2])
  have e1 := mulP_any (p := rawP p q) (q := r) hraw hr (S := U) (T := V) (by rw [eR]; exact t1.2) t2.2 (by rw [eR]; exact g1.trans g2.symm)
  have e2 := mulP_any hq hr (S := compT T U) (T := V) (by rw [compT_length, s2.2, o2]) t2.2 (by rw [c4]; exact g1.trans g2.symm)
  have hX : okP (q.1.fill (compT T U), r.2.fill V) := by
    have a1 := fill_leaves (t := q.1) (us := compT T U) (by rw [compT_length, s2.2])
    have a2 := fill_leaves (t := q.2) (us := compT T U) (by rw [compT_length, s2.2, o2])
    have a3 := fill_leaves (t := r.2) (us := V) (by rw [t2.2, o3])
    rw [c4, g1] at a2
    unfold okP
    dsimp only
    unfold Tr.leaves at *
    omega
  rw [← e2, mulP_redR hp hX, ← e1, eR]
  dsimp only
  have e3 := mulP_any hp hX (S := compT S U) (T := List.replicate (q.1.fill (compT T U)).leaves .lf) (by rw [compT_length, s1.2]) (by simp) (by rw [fill_lfs, c2, c3, f1, f2])
  rw [← e3, c1]
  dsimp only
  congr 2
  have : (q.1.fill (compT T U)).leaves = (r.2.fill V).leaves := okP_leaves hX
  rw [this, fill_lfs]

def idP : Pr := (.lf, .lf)
theorem id_ok : okP idP := rfl
theorem lf_both : both ((.lf, .lf) : Pr) = [] := rfl
theorem red_id : red idP = idP := (red_self _).2 rfl
theorem red_same (t : Tr) : red (t, t) = idP := by
  have h : expE idP [t] = (t, t) := rfl
  rw [← h, red_expE id_ok _ [t] rfl rfl, red_id]
theorem subs_lf (a : Tr) : a.subs a = List.replicate a.leaves .lf := by
  have h := subs_fill a (List.replicate a.leaves .lf) (by simp)
  rw [fill_lfs] at h
  exact h.2
theorem join_self (a : Tr) : a.join a = a := by
  induction a with
  | lf => rfl
  | nd x y ihx ihy => simp [Tr.join, ihx, ihy]
theorem mul_inv {p : Pr} (hp : okP p) : mulP p (invP p) = idP := by
  have e : rawP p (invP p) = (p.1, p.1) := by
    have o := okP_leaves hp
    unfold rawP invP
    dsimp only
    rw [join_self, subs_lf, ← o, fill_lfs]
  unfold mulP
  rw [e, red_same]
theorem join_lf' (t : Tr) : t.join .lf = t := by cases t <;> rfl
theorem mul_id {p : Pr} (hp : okP p) : mulP p idP = red p := by
  have e : rawP p idP = p := by
    have o := okP_leaves hp
    show (p.1.fill (p.2.subs (p.2.join .lf)), Tr.fill .lf (Tr.subs .lf (p.2.join .lf))) = p
    rw [join_lf', subs_lf, ← o, fill_lfs]
    rfl
  unfold mulP
  rw [e]
theorem id_mul {p : Pr} (hp : okP p) : mulP idP p = red p := by
  have h := mul_id (inv_ok hp)
  have h2 := inv_mul (invP p) idP
  have h3 : invP (invP p) = p := rfl
  have h4 : invP idP = idP := rfl
  rw [h3, h4] at h2
  rw [← h2, h, red_inv _ p rfl]
  rfl
theorem red_red (p : Pr) : red (red p) = red p := (red_self _).2 (red_both p [])
theorem mul_red (p q : Pr) : red (mulP p q) = mulP p q := red_red _

/-- The conjugate of p by q. -/
def conP (p q : Pr) : Pr := mulP (mulP (invP q) p) q
theorem conP_ok {p q : Pr} (hp : okP p) (hq : okP q) : okP (conP p q) := mulP_ok (mulP_ok (inv_ok hq) hp) hq
theorem conP_carets {p q : Pr} (hp : okP p) (hq : okP q) : (conP p q).1.carets ≤ q.1.carets + p.1.carets + q.1.carets := by
  have h1 := mulP_carets (inv_ok hq) hp
  have h2 := mulP_carets (mulP_ok (inv_ok hq) hp) hq
  have h3 : (mulP (invP q) p).1.carets = (mulP (invP q) p).2.carets := mulP_ok (inv_ok hq) hp
  have h4 : (invP q).2.carets = q.1.carets := rfl
  unfold conP
  omega
theorem conP_red {p q : Pr} (hp : okP p) (hq : okP q) : conP (red p) q = conP p q := by
  unfold conP
  rw [mulP_redR (inv_ok hq) hp]
theorem con_con {p a b : Pr} (hp : okP p) (ha : okP a) (hb : okP b) : conP (conP p a) b = conP p (mulP a b) := by
  unfold conP
  have ia := inv_ok ha
  have ib := inv_ok hb
  rw [inv_mul, ← mul_assoc ib (mulP_ok ia hp) ha, ← mul_assoc ib ia hp, ← mul_assoc (mulP_ok (mulP_ok ib ia) hp) ha hb]
theorem con_id {p : Pr} (hp : okP p) : conP p idP = red p := by
  unfold conP
  have hr : okP (red p) := red_ok hp []
  rw [show invP idP = idP from rfl, id_mul hp, mul_id hr, red_red]
theorem con_self (p q : Pr) : red (conP p q) = conP p q := mul_red _ _
theorem con_back {p a : Pr} (hp : okP p) (ha : okP a) : conP (conP p a) (invP a) = red p := by
  rw [con_con hp ha (inv_ok ha), mul_inv ha, con_id hp]
end Go.Proofs.Ytkpganpojdboeaa

/-! Cj1 -/
namespace Go.Proofs.Ytkpganpojdboeaa
open Go.RowKit

set_option maxRecDepth 100000 in
set_option maxHeartbeats 2000000 in
theorem cjBy_any (p q : Pr) (w : World) (hok1 : okP p) (hok2 : okP q) (hz : p.1.carets + q.1.carets ≤ 30) :
    Calls Try.prog 45 #[.agg #[.string p.1.str, .string p.2.str], .agg #[.string q.1.str, .string q.2.str]] w (Gives (.agg #[.string (conP p q).1.str, .string (conP p q).2.str]) w) := by
  have hi := inv_ok hok2
  have hu := mulP_ok hi hok1
  have hv := mulP_ok hu hok2
  have huc := mulP_carets hi hok1
  have c1 : (invP q).1.carets = q.2.carets := rfl
  have c2 : (invP q).2.carets = q.1.carets := rfl
  have c3 : q.1.carets = q.2.carets := hok2
  have c4 : (mulP (invP q) p).1.carets = (mulP (invP q) p).2.carets := hu
  have I1 : ∀ w, Calls Try.prog 81 #[.agg #[.string q.1.str, .string q.2.str]] w (Gives (.agg #[.string (invP q).1.str, .string (invP q).2.str]) w) := fun w => prInverse_any q.1.str q.2.str w
  have U := fun w => prTimes_any (invP q) p w hi hok1 (by omega) (by omega)
  have V := fun w => prTimes_any (mulP (invP q) p) q w hu hok2 (by omega) (by omega)
  rw [show conP p q = mulP (mulP (invP q) p) q from rfl]
  clear huc c1 c2 c3 c4 hi hu hv
  generalize mulP (mulP (invP q) p) q = XX at *
  generalize mulP (invP q) p = UU at *
  generalize invP q = IQ at *
  go_enter Try.func45, Try.ntmps45
  go_wp2_with fail
  have hb0 : Below w.heap.size w (((w.alloc (.cells #[.string p.1.str, .string p.2.str] 25 (0, 0))).alloc (.cells #[.string q.1.str, .string q.2.str] 25 (0, 0))).alloc (.cells #[.string ⟨#[]⟩, .string ⟨#[]⟩] 25 (0, 0))) := nxAlloc (nxAlloc (nxAlloc (Below.refl _ _) _) _) _
  have hx0 := heap_keep (nxAlloc (Below.refl _ _) (.cells #[.string ⟨#[]⟩, .string ⟨#[]⟩] 25 (0, 0))) (heap_keep (nxAlloc (Below.refl _ _) (.cells #[.string q.1.str, .string q.2.str] 25 (0, 0))) (heap_alloc_at w (.cells #[.string p.1.str, .string p.2.str] 25 (0, 0))))
  have hx1 := heap_keep (nxAlloc (Below.refl _ _) (.cells #[.string ⟨#[]⟩, .string ⟨#[]⟩] 25 (0, 0))) (heap_alloc_at (w.alloc (.cells #[.string p.1.str, .string p.2.str] 25 (0, 0))) (.cells #[.string q.1.str, .string q.2.str] 25 (0, 0)))
  have hx2 := heap_alloc_at ((w.alloc (.cells #[.string p.1.str, .string p.2.str] 25 (0, 0))).alloc (.cells #[.string q.1.str, .string q.2.str] 25 (0, 0))) (.cells #[.string ⟨#[]⟩, .string ⟨#[]⟩] 25 (0, 0))
  generalize (((w.alloc (.cells #[.string p.1.str, .string p.2.str] 25 (0, 0))).alloc (.cells #[.string q.1.str, .string q.2.str] 25 (0, 0))).alloc (.cells #[.string ⟨#[]⟩, .string ⟨#[]⟩] 25 (0, 0))) = w0 at *
  have e1 : (w.alloc (.cells #[.string p.1.str, .string p.2.str] 25 (0, 0))).heap.size = w.heap.size + 1 := by simp
  rw [e1] at hx1
  clear e1
  have e2 : ((w.alloc (.cells #[.string p.1.str, .string p.2.str] 25 (0, 0))).alloc (.cells #[.string q.1.str, .string q.2.str] 25 (0, 0))).heap.size = w.heap.size + 1 + 1 := by simp
  rw [e2] at hx2
  clear e2
  obtain ⟨hx0a, hx0b, hx0c⟩ := two_facts hx0
  obtain ⟨hx0f, hx0g⟩ := two_frozen hx0
  obtain ⟨hx1a, hx1b, hx1c⟩ := two_facts hx1
  obtain ⟨hx1f, hx1g⟩ := two_frozen hx1
  obtain ⟨hx2a, hx2b, hx2c⟩ := two_facts hx2
  obtain ⟨hx2f, hx2g⟩ := two_frozen hx2
  refine wp_region_clsT 6 (by kernel_rfl) (by kernel_rfl) ?_
  simp only [List.take_succ_cons, List.take_zero, List.drop_succ_cons, List.drop_zero]
  repeat (
    refine wpQuiet_step (fun K hK => ?_)
    go_simp
    first
      | (refine hK _ ?_; clear hK K)
      | (refine ⟨_, fun _ _ => rfl, hK _ ?_⟩; clear hK K)
      | (apply Exists.intro
         refine ⟨fun w' hw' => ?_, hK _ ?_⟩
         · first
             | (go_at_call 81; exact hw'.call (I1 _))
             | (go_at_call 71; first | (with_reducible exact hw'.call (U _)) | (with_reducible exact hw'.call (V _)))
             | (rw [hw'.cell hx0c hx0a]; dsimp only [Result.andThen]; rw [hw'.cell hx0c hx0b]; exact ⟨rfl, rfl⟩)
             | (rw [hw'.cell hx1c hx1a]; dsimp only [Result.andThen]; rw [hw'.cell hx1c hx1b]; exact ⟨rfl, rfl⟩)
         clear hK K))
  refine wpQuiet_nil ?_
  intro w' hw'
  have hbwf := nx hb0 hw'
  replace hx0 := heap_keep hw' hx0
  replace hx1 := heap_keep hw' hx1
  replace hx2 := heap_keep hw' hx2
  clear hw' hb0
  clear hx0a hx0b hx0c hx0f hx0g
  obtain ⟨hx0a, hx0b, hx0c⟩ := two_facts hx0
  obtain ⟨hx0f, hx0g⟩ := two_frozen hx0
  clear hx1a hx1b hx1c hx1f hx1g
  obtain ⟨hx1a, hx1b, hx1c⟩ := two_facts hx1
  obtain ⟨hx1f, hx1g⟩ := two_frozen hx1
  clear hx2a hx2b hx2c hx2f hx2g
  obtain ⟨hx2a, hx2b, hx2c⟩ := two_facts hx2
  obtain ⟨hx2f, hx2g⟩ := two_frozen hx2
  go_wp2_with fail
  obtain ⟨q1, q2⟩ := two_cells (set_two (.string XX.1.str) (.string XX.2.str) hx2)
  refine bodyPost_ret (v := .agg #[.string XX.1.str, .string XX.2.str]) (by simp [q1, q2, results, Try.results45, go_sem]) rfl ⟨rfl, ?_⟩
  exact (hbwf.setCell (by show w.heap.size ≤ w.heap.size + 1 + 1; omega) _).setCell (by show w.heap.size ≤ w.heap.size + 1 + 1; omega) _

set_option maxRecDepth 100000 in
set_option maxHeartbeats 2000000 in
theorem conjugated_any (p q : Pr) (w : World) (hok1 : okP p) (hok2 : okP q) (hz : p.1.carets + q.1.carets ≤ 30) :
    Calls Try.prog 48 #[.agg #[.string p.1.str, .string p.2.str], .agg #[.string q.1.str, .string q.2.str]] w (Gives (.agg #[.string (conP p q).1.str, .string (conP p q).2.str]) w) := by
  have hi := inv_ok hok2
  have hu := mulP_ok hi hok1
  have hv := mulP_ok hu hok2
  have huc := mulP_carets hi hok1
  have c1 : (invP q).1.carets = q.2.carets := rfl
  have c2 : (invP q).2.carets = q.1.carets := rfl
  have c3 : q.1.carets = q.2.carets := hok2
  have c4 : (mulP (invP q) p).1.carets = (mulP (invP q) p).2.carets := hu
  have I1 : ∀ w, Calls Try.prog 85 #[.agg #[.string q.1.str, .string q.2.str]] w (Gives (.agg #[.string (invP q).1.str, .string (invP q).2.str]) w) := fun w => inverse_any q.1.str q.2.str w
  have U := fun w => product_any (invP q) p w hi hok1 (by omega) (by omega)
  have V := fun w => product_any (mulP (invP q) p) q w hu hok2 (by omega) (by omega)
  rw [show conP p q = mulP (mulP (invP q) p) q from rfl]
  clear huc c1 c2 c3 c4 hi hu hv
  generalize mulP (mulP (invP q) p) q = XX at *
  generalize mulP (invP q) p = UU at *
  generalize invP q = IQ at *
  go_enter Try.func48, Try.ntmps48
  go_wp2_with fail
  have hb0 : Below w.heap.size w (((w.alloc (.cells #[.string p.1.str, .string p.2.str] 25 (0, 0))).alloc (.cells #[.string q.1.str, .string q.2.str] 25 (0, 0))).alloc (.cells #[.string ⟨#[]⟩, .string ⟨#[]⟩] 25 (0, 0))) := nxAlloc (nxAlloc (nxAlloc (Below.refl _ _) _) _) _
  have hx0 := heap_keep (nxAlloc (Below.refl _ _) (.cells #[.string ⟨#[]⟩, .string ⟨#[]⟩] 25 (0, 0))) (heap_keep (nxAlloc (Below.refl _ _) (.cells #[.string q.1.str, .string q.2.str] 25 (0, 0))) (heap_alloc_at w (.cells #[.string p.1.str, .string p.2.str] 25 (0, 0))))
  have hx1 := heap_keep (nxAlloc (Below.refl _ _) (.cells #[.string ⟨#[]⟩, .string ⟨#[]⟩] 25 (0, 0))) (heap_alloc_at (w.alloc (.cells #[.string p.1.str, .string p.2.str] 25 (0, 0))) (.cells #[.string q.1.str, .string q.2.str] 25 (0, 0)))
  have hx2 := heap_alloc_at ((w.alloc (.cells #[.string p.1.str, .string p.2.str] 25 (0, 0))).alloc (.cells #[.string q.1.str, .string q.2.str] 25 (0, 0))) (.cells #[.string ⟨#[]⟩, .string ⟨#[]⟩] 25 (0, 0))
  generalize (((w.alloc (.cells #[.string p.1.str, .string p.2.str] 25 (0, 0))).alloc (.cells #[.string q.1.str, .string q.2.str] 25 (0, 0))).alloc (.cells #[.string ⟨#[]⟩, .string ⟨#[]⟩] 25 (0, 0))) = w0 at *
  have e1 : (w.alloc (.cells #[.string p.1.str, .string p.2.str] 25 (0, 0))).heap.size = w.heap.size + 1 := by simp
  rw [e1] at hx1
  clear e1
  have e2 : ((w.alloc (.cells #[.string p.1.str, .string p.2.str] 25 (0, 0))).alloc (.cells #[.string q.1.str, .string q.2.str] 25 (0, 0))).heap.size = w.heap.size + 1 + 1 := by simp
  rw [e2] at hx2
  clear e2
  obtain ⟨hx0a, hx0b, hx0c⟩ := two_facts hx0
  obtain ⟨hx0f, hx0g⟩ := two_frozen hx0
  obtain ⟨hx1a, hx1b, hx1c⟩ := two_facts hx1
  obtain ⟨hx1f, hx1g⟩ := two_frozen hx1
  obtain ⟨hx2a, hx2b, hx2c⟩ := two_facts hx2
  obtain ⟨hx2f, hx2g⟩ := two_frozen hx2
  refine wp_region_clsT 6 (by kernel_rfl) (by kernel_rfl) ?_
  simp only [List.take_succ_cons, List.take_zero, List.drop_succ_cons, List.drop_zero]
  repeat (
    refine wpQuiet_step (fun K hK => ?_)
    go_simp
    first
      | (refine hK _ ?_; clear hK K)
      | (refine ⟨_, fun _ _ => rfl, hK _ ?_⟩; clear hK K)
      | (apply Exists.intro
         refine ⟨fun w' hw' => ?_, hK _ ?_⟩
         · first
             | (go_at_call 85; exact hw'.call (I1 _))
             | (go_at_call 75; first | (with_reducible exact hw'.call (U _)) | (with_reducible exact hw'.call (V _)))
             | (rw [hw'.cell hx0c hx0a]; dsimp only [Result.andThen]; rw [hw'.cell hx0c hx0b]; exact ⟨rfl, rfl⟩)
             | (rw [hw'.cell hx1c hx1a]; dsimp only [Result.andThen]; rw [hw'.cell hx1c hx1b]; exact ⟨rfl, rfl⟩)
         clear hK K))
  refine wpQuiet_nil ?_
  intro w' hw'
  have hbwf := nx hb0 hw'
  replace hx0 := heap_keep hw' hx0
  replace hx1 := heap_keep hw' hx1
  replace hx2 := heap_keep hw' hx2
  clear hw' hb0
  clear hx0a hx0b hx0c hx0f hx0g
  obtain ⟨hx0a, hx0b, hx0c⟩ := two_facts hx0
  obtain ⟨hx0f, hx0g⟩ := two_frozen hx0
  clear hx1a hx1b hx1c hx1f hx1g
  obtain ⟨hx1a, hx1b, hx1c⟩ := two_facts hx1
  obtain ⟨hx1f, hx1g⟩ := two_frozen hx1
  clear hx2a hx2b hx2c hx2f hx2g
  obtain ⟨hx2a, hx2b, hx2c⟩ := two_facts hx2
  obtain ⟨hx2f, hx2g⟩ := two_frozen hx2
  go_wp2_with fail
  obtain ⟨q1, q2⟩ := two_cells (set_two (.string XX.1.str) (.string XX.2.str) hx2)
  refine bodyPost_ret (v := .agg #[.string XX.1.str, .string XX.2.str]) (by simp [q1, q2, results, Try.results48, go_sem]) rfl ⟨rfl, ?_⟩
  exact (hbwf.setCell (by show w.heap.size ≤ w.heap.size + 1 + 1; omega) _).setCell (by show w.heap.size ≤ w.heap.size + 1 + 1; omega) _

set_option maxRecDepth 100000 in
set_option maxHeartbeats 2000000 in
theorem specConjugatePair_any (a b c d : ByteArray) (w : World) (ha : a.size ≤ 9223372036854775806) (hb : b.size ≤ 9223372036854775806) (hc : c.size ≤ 9223372036854775806) (hd : d.size ≤ 9223372036854775806) :
    Calls Try.prog 14 #[.agg #[.string a, .string b], .agg #[.string c, .string d]] w (Gives (ansPr ((pairOf a b).bind fun p => (pairOf c d).bind fun q => limP (conP p q))) w) := by
  have hg := fun w => prGood_any a b w ha hb
  have hk := fun w => prGood_any c d w hc hd
  cases h : pairOf a b with
  | none =>
    rw [h] at hg
    clear h hk
    go_enter Try.func14, Try.ntmps14
    go_wp2_with fail
    have hb0 : Below w.heap.size w (((w.alloc (.cells #[.string a, .string b] 25 (0, 0))).alloc (.cells #[.string c, .string d] 25 (0, 0))).alloc (.cells #[.string ⟨#[]⟩, .string ⟨#[]⟩] 25 (0, 0))) := nxAlloc (nxAlloc (nxAlloc (Below.refl _ _) _) _) _
    have hx0 := heap_keep (nxAlloc (Below.refl _ _) (.cells #[.string ⟨#[]⟩, .string ⟨#[]⟩] 25 (0, 0))) (heap_keep (nxAlloc (Below.refl _ _) (.cells #[.string c, .string d] 25 (0, 0))) (heap_alloc_at w (.cells #[.string a, .string b] 25 (0, 0))))
    have hx1 := heap_keep (nxAlloc (Below.refl _ _) (.cells #[.string ⟨#[]⟩, .string ⟨#[]⟩] 25 (0, 0))) (heap_alloc_at (w.alloc (.cells #[.string a, .string b] 25 (0, 0))) (.cells #[.string c, .string d] 25 (0, 0)))
    have hx2 := heap_alloc_at ((w.alloc (.cells #[.string a, .string b] 25 (0, 0))).alloc (.cells #[.string c, .string d] 25 (0, 0))) (.cells #[.string ⟨#[]⟩, .string ⟨#[]⟩] 25 (0, 0))
    generalize (((w.alloc (.cells #[.string a, .string b] 25 (0, 0))).alloc (.cells #[.string c, .string d] 25 (0, 0))).alloc (.cells #[.string ⟨#[]⟩, .string ⟨#[]⟩] 25 (0, 0))) = w0 at *
    have e1 : (w.alloc (.cells #[.string a, .string b] 25 (0, 0))).heap.size = w.heap.size + 1 := by simp
    rw [e1] at hx1
    clear e1
    have e2 : ((w.alloc (.cells #[.string a, .string b] 25 (0, 0))).alloc (.cells #[.string c, .string d] 25 (0, 0))).heap.size = w.heap.size + 1 + 1 := by simp
    rw [e2] at hx2
    clear e2
    obtain ⟨hx0a, hx0b, hx0c⟩ := two_facts hx0
    obtain ⟨hx0f, hx0g⟩ := two_frozen hx0
    obtain ⟨hx1a, hx1b, hx1c⟩ := two_facts hx1
    obtain ⟨hx1f, hx1g⟩ := two_frozen hx1
    obtain ⟨hx2a, hx2b, hx2c⟩ := two_facts hx2
    obtain ⟨hx2f, hx2g⟩ := two_frozen hx2
    refine (hg _).mono ?_; rintro e w1 ⟨rfl, hb1⟩
    have hbw1 := nx hb0 hb1
    replace hx0 := heap_keep hb1 hx0
    replace hx1 := heap_keep hb1 hx1
    replace hx2 := heap_keep hb1 hx2
    clear hx0a hx0b hx0c hx0f hx0g
    obtain ⟨hx0a, hx0b, hx0c⟩ := two_facts hx0
    obtain ⟨hx0f, hx0g⟩ := two_frozen hx0
    clear hx1a hx1b hx1c hx1f hx1g
    obtain ⟨hx1a, hx1b, hx1c⟩ := two_facts hx1
    obtain ⟨hx1f, hx1g⟩ := two_frozen hx1
    clear hx2a hx2b hx2c hx2f hx2g
    obtain ⟨hx2a, hx2b, hx2c⟩ := two_facts hx2
    obtain ⟨hx2f, hx2g⟩ := two_frozen hx2
    clear hb1 hb0
    go_wp2_with fail
    obtain ⟨q1, q2⟩ := two_cells (set_two (.string ⟨#[]⟩) (.string ⟨#[]⟩) hx2)
    refine bodyPost_ret (v := .tuple #[.agg #[.string ⟨#[]⟩, .string ⟨#[]⟩], .bool false]) (by simp [q1, q2, results, Try.results14, go_sem]) rfl ⟨rfl, ?_⟩
    exact (hbw1.setCell (by show w.heap.size ≤ w.heap.size + 1 + 1; omega) _).setCell (by show w.heap.size ≤ w.heap.size + 1 + 1; omega) _
  | some p =>
    rw [h] at hg
    obtain ⟨rfl, rfl, hok1, hp1, hp2⟩ := pairOf_some h
    clear h
    cases k : pairOf c d with
    | none =>
      rw [k] at hk
      clear k
      go_enter Try.func14, Try.ntmps14
      go_wp2_with fail
      have hb0 : Below w.heap.size w (((w.alloc (.cells #[.string p.1.str, .string p.2.str] 25 (0, 0))).alloc (.cells #[.string c, .string d] 25 (0, 0))).alloc (.cells #[.string ⟨#[]⟩, .string ⟨#[]⟩] 25 (0, 0))) := nxAlloc (nxAlloc (nxAlloc (Below.refl _ _) _) _) _
      have hx0 := heap_keep (nxAlloc (Below.refl _ _) (.cells #[.string ⟨#[]⟩, .string ⟨#[]⟩] 25 (0, 0))) (heap_keep (nxAlloc (Below.refl _ _) (.cells #[.string c, .string d] 25 (0, 0))) (heap_alloc_at w (.cells #[.string p.1.str, .string p.2.str] 25 (0, 0))))
      have hx1 := heap_keep (nxAlloc (Below.refl _ _) (.cells #[.string ⟨#[]⟩, .string ⟨#[]⟩] 25 (0, 0))) (heap_alloc_at (w.alloc (.cells #[.string p.1.str, .string p.2.str] 25 (0, 0))) (.cells #[.string c, .string d] 25 (0, 0)))
      have hx2 := heap_alloc_at ((w.alloc (.cells #[.string p.1.str, .string p.2.str] 25 (0, 0))).alloc (.cells #[.string c, .string d] 25 (0, 0))) (.cells #[.string ⟨#[]⟩, .string ⟨#[]⟩] 25 (0, 0))
      generalize (((w.alloc (.cells #[.string p.1.str, .string p.2.str] 25 (0, 0))).alloc (.cells #[.string c, .string d] 25 (0, 0))).alloc (.cells #[.string ⟨#[]⟩, .string ⟨#[]⟩] 25 (0, 0))) = w0 at *
      have e1 : (w.alloc (.cells #[.string p.1.str, .string p.2.str] 25 (0, 0))).heap.size = w.heap.size + 1 := by simp
      rw [e1] at hx1
      clear e1
      have e2 : ((w.alloc (.cells #[.string p.1.str, .string p.2.str] 25 (0, 0))).alloc (.cells #[.string c, .string d] 25 (0, 0))).heap.size = w.heap.size + 1 + 1 := by simp
      rw [e2] at hx2
      clear e2
      obtain ⟨hx0a, hx0b, hx0c⟩ := two_facts hx0
      obtain ⟨hx0f, hx0g⟩ := two_frozen hx0
      obtain ⟨hx1a, hx1b, hx1c⟩ := two_facts hx1
      obtain ⟨hx1f, hx1g⟩ := two_frozen hx1
      obtain ⟨hx2a, hx2b, hx2c⟩ := two_facts hx2
      obtain ⟨hx2f, hx2g⟩ := two_frozen hx2
      refine (hg _).mono ?_; rintro e w1 ⟨rfl, hb1⟩
      have hbw1 := nx hb0 hb1
      replace hx0 := heap_keep hb1 hx0
      replace hx1 := heap_keep hb1 hx1
      replace hx2 := heap_keep hb1 hx2
      clear hx0a hx0b hx0c hx0f hx0g
      obtain ⟨hx0a, hx0b, hx0c⟩ := two_facts hx0
      obtain ⟨hx0f, hx0g⟩ := two_frozen hx0
      clear hx1a hx1b hx1c hx1f hx1g
      obtain ⟨hx1a, hx1b, hx1c⟩ := two_facts hx1
      obtain ⟨hx1f, hx1g⟩ := two_frozen hx1
      clear hx2a hx2b hx2c hx2f hx2g
      obtain ⟨hx2a, hx2b, hx2c⟩ := two_facts hx2
      obtain ⟨hx2f, hx2g⟩ := two_frozen hx2
      clear hb1 hb0
      go_wp2_with fail
      refine (hk _).mono ?_; rintro e w2 ⟨rfl, hb2⟩
      have hbw2 := nx hbw1 hb2
      replace hx0 := heap_keep hb2 hx0
      replace hx1 := heap_keep hb2 hx1
      replace hx2 := heap_keep hb2 hx2
      clear hx0a hx0b hx0c hx0f hx0g
      obtain ⟨hx0a, hx0b, hx0c⟩ := two_facts hx0
      obtain ⟨hx0f, hx0g⟩ := two_frozen hx0
      clear hx1a hx1b hx1c hx1f hx1g
      obtain ⟨hx1a, hx1b, hx1c⟩ := two_facts hx1
      obtain ⟨hx1f, hx1g⟩ := two_frozen hx1
      clear hx2a hx2b hx2c hx2f hx2g
      obtain ⟨hx2a, hx2b, hx2c⟩ := two_facts hx2
      obtain ⟨hx2f, hx2g⟩ := two_frozen hx2
      clear hb2 hbw1
      go_wp2_with fail
      obtain ⟨q1, q2⟩ := two_cells (set_two (.string ⟨#[]⟩) (.string ⟨#[]⟩) hx2)
      refine bodyPost_ret (v := .tuple #[.agg #[.string ⟨#[]⟩, .string ⟨#[]⟩], .bool false]) (by simp [q1, q2, results, Try.results14, go_sem]) rfl ⟨rfl, ?_⟩
      exact (hbw2.setCell (by show w.heap.size ≤ w.heap.size + 1 + 1; omega) _).setCell (by show w.heap.size ≤ w.heap.size + 1 + 1; omega) _
    | some q =>
      rw [k] at hk
      obtain ⟨rfl, rfl, hok2, hq1, hq2⟩ := pairOf_some k
      clear k
      show Calls _ _ _ _ (Gives (ansPr (limP (conP p q))) w)
      have hm := conP_ok hok1 hok2
      have hmc := conP_carets hok1 hok2
      have hC := fun w => cjBy_any p q w hok1 hok2 (by omega)
      have hL := fun w => prIf_any (conP p q) w hm (by omega)
      clear hm hmc
      generalize limP (conP p q) = o at *
      unfold ansPr at *
      generalize pS1 o = X at *
      generalize pS2 o = Y at *
      generalize o.isSome = ok at *
      generalize conP p q = C at *
      go_enter Try.func14, Try.ntmps14
      go_wp2_with fail
      have hb0 : Below w.heap.size w (((w.alloc (.cells #[.string p.1.str, .string p.2.str] 25 (0, 0))).alloc (.cells #[.string q.1.str, .string q.2.str] 25 (0, 0))).alloc (.cells #[.string ⟨#[]⟩, .string ⟨#[]⟩] 25 (0, 0))) := nxAlloc (nxAlloc (nxAlloc (Below.refl _ _) _) _) _
      have hx0 := heap_keep (nxAlloc (Below.refl _ _) (.cells #[.string ⟨#[]⟩, .string ⟨#[]⟩] 25 (0, 0))) (heap_keep (nxAlloc (Below.refl _ _) (.cells #[.string q.1.str, .string q.2.str] 25 (0, 0))) (heap_alloc_at w (.cells #[.string p.1.str, .string p.2.str] 25 (0, 0))))
      have hx1 := heap_keep (nxAlloc (Below.refl _ _) (.cells #[.string ⟨#[]⟩, .string ⟨#[]⟩] 25 (0, 0))) (heap_alloc_at (w.alloc (.cells #[.string p.1.str, .string p.2.str] 25 (0, 0))) (.cells #[.string q.1.str, .string q.2.str] 25 (0, 0)))
      have hx2 := heap_alloc_at ((w.alloc (.cells #[.string p.1.str, .string p.2.str] 25 (0, 0))).alloc (.cells #[.string q.1.str, .string q.2.str] 25 (0, 0))) (.cells #[.string ⟨#[]⟩, .string ⟨#[]⟩] 25 (0, 0))
      generalize (((w.alloc (.cells #[.string p.1.str, .string p.2.str] 25 (0, 0))).alloc (.cells #[.string q.1.str, .string q.2.str] 25 (0, 0))).alloc (.cells #[.string ⟨#[]⟩, .string ⟨#[]⟩] 25 (0, 0))) = w0 at *
      have e1 : (w.alloc (.cells #[.string p.1.str, .string p.2.str] 25 (0, 0))).heap.size = w.heap.size + 1 := by simp
      rw [e1] at hx1
      clear e1
      have e2 : ((w.alloc (.cells #[.string p.1.str, .string p.2.str] 25 (0, 0))).alloc (.cells #[.string q.1.str, .string q.2.str] 25 (0, 0))).heap.size = w.heap.size + 1 + 1 := by simp
      rw [e2] at hx2
      clear e2
      obtain ⟨hx0a, hx0b, hx0c⟩ := two_facts hx0
      obtain ⟨hx0f, hx0g⟩ := two_frozen hx0
      obtain ⟨hx1a, hx1b, hx1c⟩ := two_facts hx1
      obtain ⟨hx1f, hx1g⟩ := two_frozen hx1
      obtain ⟨hx2a, hx2b, hx2c⟩ := two_facts hx2
      obtain ⟨hx2f, hx2g⟩ := two_frozen hx2
      refine (hg _).mono ?_; rintro e w1 ⟨rfl, hb1⟩
      have hbw1 := nx hb0 hb1
      replace hx0 := heap_keep hb1 hx0
      replace hx1 := heap_keep hb1 hx1
      replace hx2 := heap_keep hb1 hx2
      clear hx0a hx0b hx0c hx0f hx0g
      obtain ⟨hx0a, hx0b, hx0c⟩ := two_facts hx0
      obtain ⟨hx0f, hx0g⟩ := two_frozen hx0
      clear hx1a hx1b hx1c hx1f hx1g
      obtain ⟨hx1a, hx1b, hx1c⟩ := two_facts hx1
      obtain ⟨hx1f, hx1g⟩ := two_frozen hx1
      clear hx2a hx2b hx2c hx2f hx2g
      obtain ⟨hx2a, hx2b, hx2c⟩ := two_facts hx2
      obtain ⟨hx2f, hx2g⟩ := two_frozen hx2
      clear hb1 hb0
      go_wp2_with fail
      refine (hk _).mono ?_; rintro e w2 ⟨rfl, hb2⟩
      have hbw2 := nx hbw1 hb2
      replace hx0 := heap_keep hb2 hx0
      replace hx1 := heap_keep hb2 hx1
      replace hx2 := heap_keep hb2 hx2
      clear hx0a hx0b hx0c hx0f hx0g
      obtain ⟨hx0a, hx0b, hx0c⟩ := two_facts hx0
      obtain ⟨hx0f, hx0g⟩ := two_frozen hx0
      clear hx1a hx1b hx1c hx1f hx1g
      obtain ⟨hx1a, hx1b, hx1c⟩ := two_facts hx1
      obtain ⟨hx1f, hx1g⟩ := two_frozen hx1
      clear hx2a hx2b hx2c hx2f hx2g
      obtain ⟨hx2a, hx2b, hx2c⟩ := two_facts hx2
      obtain ⟨hx2f, hx2g⟩ := two_frozen hx2
      clear hb2 hbw1
      go_wp2_with fail
      refine (hC _).mono ?_; rintro e w3 ⟨rfl, hb3⟩
      have hbw3 := nx hbw2 hb3
      replace hx0 := heap_keep hb3 hx0
      replace hx1 := heap_keep hb3 hx1
      replace hx2 := heap_keep hb3 hx2
      clear hx0a hx0b hx0c hx0f hx0g
      obtain ⟨hx0a, hx0b, hx0c⟩ := two_facts hx0
      obtain ⟨hx0f, hx0g⟩ := two_frozen hx0
      clear hx1a hx1b hx1c hx1f hx1g
      obtain ⟨hx1a, hx1b, hx1c⟩ := two_facts hx1
      obtain ⟨hx1f, hx1g⟩ := two_frozen hx1
      clear hx2a hx2b hx2c hx2f hx2g
      obtain ⟨hx2a, hx2b, hx2c⟩ := two_facts hx2
      obtain ⟨hx2f, hx2g⟩ := two_frozen hx2
      clear hb3 hbw2
      go_wp2_with fail
      refine (hL _).mono ?_; rintro e w4 ⟨rfl, hb4⟩
      have hbw4 := nx hbw3 hb4
      replace hx0 := heap_keep hb4 hx0
      replace hx1 := heap_keep hb4 hx1
      replace hx2 := heap_keep hb4 hx2
      clear hx0a hx0b hx0c hx0f hx0g
      obtain ⟨hx0a, hx0b, hx0c⟩ := two_facts hx0
      obtain ⟨hx0f, hx0g⟩ := two_frozen hx0
      clear hx1a hx1b hx1c hx1f hx1g
      obtain ⟨hx1a, hx1b, hx1c⟩ := two_facts hx1
      obtain ⟨hx1f, hx1g⟩ := two_frozen hx1
      clear hx2a hx2b hx2c hx2f hx2g
      obtain ⟨hx2a, hx2b, hx2c⟩ := two_facts hx2
      obtain ⟨hx2f, hx2g⟩ := two_frozen hx2
      clear hb4 hbw3
      go_wp2_with fail
      obtain ⟨q1, q2⟩ := two_cells (set_two (.string X) (.string Y) hx2)
      refine bodyPost_ret (v := .tuple #[.agg #[.string X, .string Y], .bool ok]) (by simp [q1, q2, results, Try.results14, go_sem]) rfl ⟨rfl, ?_⟩
      exact (hbw4.setCell (by show w.heap.size ≤ w.heap.size + 1 + 1; omega) _).setCell (by show w.heap.size ≤ w.heap.size + 1 + 1; omega) _

set_option maxRecDepth 100000 in
set_option maxHeartbeats 2000000 in
theorem implConjugatePair_any (a b c d : ByteArray) (w : World) (ha : a.size ≤ 9223372036854775806) (hb : b.size ≤ 9223372036854775806) (hc : c.size ≤ 9223372036854775806) (hd : d.size ≤ 9223372036854775806) :
    Calls Try.prog 16 #[.agg #[.string a, .string b], .agg #[.string c, .string d]] w (Gives (ansPr ((pairOf a b).bind fun p => (pairOf c d).bind fun q => limP (conP p q))) w) := by
  have hg := fun w => isPair_any a b w ha hb
  have hk := fun w => isPair_any c d w hc hd
  cases h : pairOf a b with
  | none =>
    rw [h] at hg
    clear h hk
    go_enter Try.func16, Try.ntmps16
    go_wp2_with fail
    have hb0 : Below w.heap.size w (((w.alloc (.cells #[.string a, .string b] 25 (0, 0))).alloc (.cells #[.string c, .string d] 25 (0, 0))).alloc (.cells #[.string ⟨#[]⟩, .string ⟨#[]⟩] 25 (0, 0))) := nxAlloc (nxAlloc (nxAlloc (Below.refl _ _) _) _) _
    have hx0 := heap_keep (nxAlloc (Below.refl _ _) (.cells #[.string ⟨#[]⟩, .string ⟨#[]⟩] 25 (0, 0))) (heap_keep (nxAlloc (Below.refl _ _) (.cells #[.string c, .string d] 25 (0, 0))) (heap_alloc_at w (.cells #[.string a, .string b] 25 (0, 0))))
    have hx1 := heap_keep (nxAlloc (Below.refl _ _) (.cells #[.string ⟨#[]⟩, .string ⟨#[]⟩] 25 (0, 0))) (heap_alloc_at (w.alloc (.cells #[.string a, .string b] 25 (0, 0))) (.cells #[.string c, .string d] 25 (0, 0)))
    have hx2 := heap_alloc_at ((w.alloc (.cells #[.string a, .string b] 25 (0, 0))).alloc (.cells #[.string c, .string d] 25 (0, 0))) (.cells #[.string ⟨#[]⟩, .string ⟨#[]⟩] 25 (0, 0))
    generalize (((w.alloc (.cells #[.string a, .string b] 25 (0, 0))).alloc (.cells #[.string c, .string d] 25 (0, 0))).alloc (.cells #[.string ⟨#[]⟩, .string ⟨#[]⟩] 25 (0, 0))) = w0 at *
    have e1 : (w.alloc (.cells #[.string a, .string b] 25 (0, 0))).heap.size = w.heap.size + 1 := by simp
    rw [e1] at hx1
    clear e1
    have e2 : ((w.alloc (.cells #[.string a, .string b] 25 (0, 0))).alloc (.cells #[.string c, .string d] 25 (0, 0))).heap.size = w.heap.size + 1 + 1 := by simp
    rw [e2] at hx2
    clear e2
    obtain ⟨hx0a, hx0b, hx0c⟩ := two_facts hx0
    obtain ⟨hx0f, hx0g⟩ := two_frozen hx0
    obtain ⟨hx1a, hx1b, hx1c⟩ := two_facts hx1
    obtain ⟨hx1f, hx1g⟩ := two_frozen hx1
    obtain ⟨hx2a, hx2b, hx2c⟩ := two_facts hx2
    obtain ⟨hx2f, hx2g⟩ := two_frozen hx2
    refine (hg _).mono ?_; rintro e w1 ⟨rfl, hb1⟩
    have hbw1 := nx hb0 hb1
    replace hx0 := heap_keep hb1 hx0
    replace hx1 := heap_keep hb1 hx1
    replace hx2 := heap_keep hb1 hx2
    clear hx0a hx0b hx0c hx0f hx0g
    obtain ⟨hx0a, hx0b, hx0c⟩ := two_facts hx0
    obtain ⟨hx0f, hx0g⟩ := two_frozen hx0
    clear hx1a hx1b hx1c hx1f hx1g
    obtain ⟨hx1a, hx1b, hx1c⟩ := two_facts hx1
    obtain ⟨hx1f, hx1g⟩ := two_frozen hx1
    clear hx2a hx2b hx2c hx2f hx2g
    obtain ⟨hx2a, hx2b, hx2c⟩ := two_facts hx2
    obtain ⟨hx2f, hx2g⟩ := two_frozen hx2
    clear hb1 hb0
    go_wp2_with fail
    obtain ⟨q1, q2⟩ := two_cells (set_two (.string ⟨#[]⟩) (.string ⟨#[]⟩) hx2)
    refine bodyPost_ret (v := .tuple #[.agg #[.string ⟨#[]⟩, .string ⟨#[]⟩], .bool false]) (by simp [q1, q2, results, Try.results16, go_sem]) rfl ⟨rfl, ?_⟩
    exact (hbw1.setCell (by show w.heap.size ≤ w.heap.size + 1 + 1; omega) _).setCell (by show w.heap.size ≤ w.heap.size + 1 + 1; omega) _
  | some p =>
    rw [h] at hg
    obtain ⟨rfl, rfl, hok1, hp1, hp2⟩ := pairOf_some h
    clear h
    cases k : pairOf c d with
    | none =>
      rw [k] at hk
      clear k
      go_enter Try.func16, Try.ntmps16
      go_wp2_with fail
      have hb0 : Below w.heap.size w (((w.alloc (.cells #[.string p.1.str, .string p.2.str] 25 (0, 0))).alloc (.cells #[.string c, .string d] 25 (0, 0))).alloc (.cells #[.string ⟨#[]⟩, .string ⟨#[]⟩] 25 (0, 0))) := nxAlloc (nxAlloc (nxAlloc (Below.refl _ _) _) _) _
      have hx0 := heap_keep (nxAlloc (Below.refl _ _) (.cells #[.string ⟨#[]⟩, .string ⟨#[]⟩] 25 (0, 0))) (heap_keep (nxAlloc (Below.refl _ _) (.cells #[.string c, .string d] 25 (0, 0))) (heap_alloc_at w (.cells #[.string p.1.str, .string p.2.str] 25 (0, 0))))
      have hx1 := heap_keep (nxAlloc (Below.refl _ _) (.cells #[.string ⟨#[]⟩, .string ⟨#[]⟩] 25 (0, 0))) (heap_alloc_at (w.alloc (.cells #[.string p.1.str, .string p.2.str] 25 (0, 0))) (.cells #[.string c, .string d] 25 (0, 0)))
      have hx2 := heap_alloc_at ((w.alloc (.cells #[.string p.1.str, .string p.2.str] 25 (0, 0))).alloc (.cells #[.string c, .string d] 25 (0, 0))) (.cells #[.string ⟨#[]⟩, .string ⟨#[]⟩] 25 (0, 0))
      generalize (((w.alloc (.cells #[.string p.1.str, .string p.2.str] 25 (0, 0))).alloc (.cells #[.string c, .string d] 25 (0, 0))).alloc (.cells #[.string ⟨#[]⟩, .string ⟨#[]⟩] 25 (0, 0))) = w0 at *
      have e1 : (w.alloc (.cells #[.string p.1.str, .string p.2.str] 25 (0, 0))).heap.size = w.heap.size + 1 := by simp
      rw [e1] at hx1
      clear e1
      have e2 : ((w.alloc (.cells #[.string p.1.str, .string p.2.str] 25 (0, 0))).alloc (.cells #[.string c, .string d] 25 (0, 0))).heap.size = w.heap.size + 1 + 1 := by simp
      rw [e2] at hx2
      clear e2
      obtain ⟨hx0a, hx0b, hx0c⟩ := two_facts hx0
      obtain ⟨hx0f, hx0g⟩ := two_frozen hx0
      obtain ⟨hx1a, hx1b, hx1c⟩ := two_facts hx1
      obtain ⟨hx1f, hx1g⟩ := two_frozen hx1
      obtain ⟨hx2a, hx2b, hx2c⟩ := two_facts hx2
      obtain ⟨hx2f, hx2g⟩ := two_frozen hx2
      refine (hg _).mono ?_; rintro e w1 ⟨rfl, hb1⟩
      have hbw1 := nx hb0 hb1
      replace hx0 := heap_keep hb1 hx0
      replace hx1 := heap_keep hb1 hx1
      replace hx2 := heap_keep hb1 hx2
      clear hx0a hx0b hx0c hx0f hx0g
      obtain ⟨hx0a, hx0b, hx0c⟩ := two_facts hx0
      obtain ⟨hx0f, hx0g⟩ := two_frozen hx0
      clear hx1a hx1b hx1c hx1f hx1g
      obtain ⟨hx1a, hx1b, hx1c⟩ := two_facts hx1
      obtain ⟨hx1f, hx1g⟩ := two_frozen hx1
      clear hx2a hx2b hx2c hx2f hx2g
      obtain ⟨hx2a, hx2b, hx2c⟩ := two_facts hx2
      obtain ⟨hx2f, hx2g⟩ := two_frozen hx2
      clear hb1 hb0
      go_wp2_with fail
      refine (hk _).mono ?_; rintro e w2 ⟨rfl, hb2⟩
      have hbw2 := nx hbw1 hb2
      replace hx0 := heap_keep hb2 hx0
      replace hx1 := heap_keep hb2 hx1
      replace hx2 := heap_keep hb2 hx2
      clear hx0a hx0b hx0c hx0f hx0g
      obtain ⟨hx0a, hx0b, hx0c⟩ := two_facts hx0
      obtain ⟨hx0f, hx0g⟩ := two_frozen hx0
      clear hx1a hx1b hx1c hx1f hx1g
      obtain ⟨hx1a, hx1b, hx1c⟩ := two_facts hx1
      obtain ⟨hx1f, hx1g⟩ := two_frozen hx1
      clear hx2a hx2b hx2c hx2f hx2g
      obtain ⟨hx2a, hx2b, hx2c⟩ := two_facts hx2
      obtain ⟨hx2f, hx2g⟩ := two_frozen hx2
      clear hb2 hbw1
      go_wp2_with fail
      obtain ⟨q1, q2⟩ := two_cells (set_two (.string ⟨#[]⟩) (.string ⟨#[]⟩) hx2)
      refine bodyPost_ret (v := .tuple #[.agg #[.string ⟨#[]⟩, .string ⟨#[]⟩], .bool false]) (by simp [q1, q2, results, Try.results16, go_sem]) rfl ⟨rfl, ?_⟩
      exact (hbw2.setCell (by show w.heap.size ≤ w.heap.size + 1 + 1; omega) _).setCell (by show w.heap.size ≤ w.heap.size + 1 + 1; omega) _
    | some q =>
      rw [k] at hk
      obtain ⟨rfl, rfl, hok2, hq1, hq2⟩ := pairOf_some k
      clear k
      show Calls _ _ _ _ (Gives (ansPr (limP (conP p q))) w)
      have hm := conP_ok hok1 hok2
      have hmc := conP_carets hok1 hok2
      have hC := fun w => conjugated_any p q w hok1 hok2 (by omega)
      have hL := fun w => pairLimit_any (conP p q) w
      clear hm hmc
      generalize limP (conP p q) = o at *
      unfold ansPr at *
      generalize pS1 o = X at *
      generalize pS2 o = Y at *
      generalize o.isSome = ok at *
      generalize conP p q = C at *
      go_enter Try.func16, Try.ntmps16
      go_wp2_with fail
      have hb0 : Below w.heap.size w (((w.alloc (.cells #[.string p.1.str, .string p.2.str] 25 (0, 0))).alloc (.cells #[.string q.1.str, .string q.2.str] 25 (0, 0))).alloc (.cells #[.string ⟨#[]⟩, .string ⟨#[]⟩] 25 (0, 0))) := nxAlloc (nxAlloc (nxAlloc (Below.refl _ _) _) _) _
      have hx0 := heap_keep (nxAlloc (Below.refl _ _) (.cells #[.string ⟨#[]⟩, .string ⟨#[]⟩] 25 (0, 0))) (heap_keep (nxAlloc (Below.refl _ _) (.cells #[.string q.1.str, .string q.2.str] 25 (0, 0))) (heap_alloc_at w (.cells #[.string p.1.str, .string p.2.str] 25 (0, 0))))
      have hx1 := heap_keep (nxAlloc (Below.refl _ _) (.cells #[.string ⟨#[]⟩, .string ⟨#[]⟩] 25 (0, 0))) (heap_alloc_at (w.alloc (.cells #[.string p.1.str, .string p.2.str] 25 (0, 0))) (.cells #[.string q.1.str, .string q.2.str] 25 (0, 0)))
      have hx2 := heap_alloc_at ((w.alloc (.cells #[.string p.1.str, .string p.2.str] 25 (0, 0))).alloc (.cells #[.string q.1.str, .string q.2.str] 25 (0, 0))) (.cells #[.string ⟨#[]⟩, .string ⟨#[]⟩] 25 (0, 0))
      generalize (((w.alloc (.cells #[.string p.1.str, .string p.2.str] 25 (0, 0))).alloc (.cells #[.string q.1.str, .string q.2.str] 25 (0, 0))).alloc (.cells #[.string ⟨#[]⟩, .string ⟨#[]⟩] 25 (0, 0))) = w0 at *
      have e1 : (w.alloc (.cells #[.string p.1.str, .string p.2.str] 25 (0, 0))).heap.size = w.heap.size + 1 := by simp
      rw [e1] at hx1
      clear e1
      have e2 : ((w.alloc (.cells #[.string p.1.str, .string p.2.str] 25 (0, 0))).alloc (.cells #[.string q.1.str, .string q.2.str] 25 (0, 0))).heap.size = w.heap.size + 1 + 1 := by simp
      rw [e2] at hx2
      clear e2
      obtain ⟨hx0a, hx0b, hx0c⟩ := two_facts hx0
      obtain ⟨hx0f, hx0g⟩ := two_frozen hx0
      obtain ⟨hx1a, hx1b, hx1c⟩ := two_facts hx1
      obtain ⟨hx1f, hx1g⟩ := two_frozen hx1
      obtain ⟨hx2a, hx2b, hx2c⟩ := two_facts hx2
      obtain ⟨hx2f, hx2g⟩ := two_frozen hx2
      refine (hg _).mono ?_; rintro e w1 ⟨rfl, hb1⟩
      have hbw1 := nx hb0 hb1
      replace hx0 := heap_keep hb1 hx0
      replace hx1 := heap_keep hb1 hx1
      replace hx2 := heap_keep hb1 hx2
      clear hx0a hx0b hx0c hx0f hx0g
      obtain ⟨hx0a, hx0b, hx0c⟩ := two_facts hx0
      obtain ⟨hx0f, hx0g⟩ := two_frozen hx0
      clear hx1a hx1b hx1c hx1f hx1g
      obtain ⟨hx1a, hx1b, hx1c⟩ := two_facts hx1
      obtain ⟨hx1f, hx1g⟩ := two_frozen hx1
      clear hx2a hx2b hx2c hx2f hx2g
      obtain ⟨hx2a, hx2b, hx2c⟩ := two_facts hx2
      obtain ⟨hx2f, hx2g⟩ := two_frozen hx2
      clear hb1 hb0
      go_wp2_with fail
      refine (hk _).mono ?_; rintro e w2 ⟨rfl, hb2⟩
      have hbw2 := nx hbw1 hb2
      replace hx0 := heap_keep hb2 hx0
      replace hx1 := heap_keep hb2 hx1
      replace hx2 := heap_keep hb2 hx2
      clear hx0a hx0b hx0c hx0f hx0g
      obtain ⟨hx0a, hx0b, hx0c⟩ := two_facts hx0
      obtain ⟨hx0f, hx0g⟩ := two_frozen hx0
      clear hx1a hx1b hx1c hx1f hx1g
      obtain ⟨hx1a, hx1b, hx1c⟩ := two_facts hx1
      obtain ⟨hx1f, hx1g⟩ := two_frozen hx1
      clear hx2a hx2b hx2c hx2f hx2g
      obtain ⟨hx2a, hx2b, hx2c⟩ := two_facts hx2
      obtain ⟨hx2f, hx2g⟩ := two_frozen hx2
      clear hb2 hbw1
      go_wp2_with fail
      refine (hC _).mono ?_; rintro e w3 ⟨rfl, hb3⟩
      have hbw3 := nx hbw2 hb3
      replace hx0 := heap_keep hb3 hx0
      replace hx1 := heap_keep hb3 hx1
      replace hx2 := heap_keep hb3 hx2
      clear hx0a hx0b hx0c hx0f hx0g
      obtain ⟨hx0a, hx0b, hx0c⟩ := two_facts hx0
      obtain ⟨hx0f, hx0g⟩ := two_frozen hx0
      clear hx1a hx1b hx1c hx1f hx1g
      obtain ⟨hx1a, hx1b, hx1c⟩ := two_facts hx1
      obtain ⟨hx1f, hx1g⟩ := two_frozen hx1
      clear hx2a hx2b hx2c hx2f hx2g
      obtain ⟨hx2a, hx2b, hx2c⟩ := two_facts hx2
      obtain ⟨hx2f, hx2g⟩ := two_frozen hx2
      clear hb3 hbw2
      go_wp2_with fail
      refine (hL _).mono ?_; rintro e w4 ⟨rfl, hb4⟩
      have hbw4 := nx hbw3 hb4
      replace hx0 := heap_keep hb4 hx0
      replace hx1 := heap_keep hb4 hx1
      replace hx2 := heap_keep hb4 hx2
      clear hx0a hx0b hx0c hx0f hx0g
      obtain ⟨hx0a, hx0b, hx0c⟩ := two_facts hx0
      obtain ⟨hx0f, hx0g⟩ := two_frozen hx0
      clear hx1a hx1b hx1c hx1f hx1g
      obtain ⟨hx1a, hx1b, hx1c⟩ := two_facts hx1
      obtain ⟨hx1f, hx1g⟩ := two_frozen hx1
      clear hx2a hx2b hx2c hx2f hx2g
      obtain ⟨hx2a, hx2b, hx2c⟩ := two_facts hx2
      obtain ⟨hx2f, hx2g⟩ := two_frozen hx2
      clear hb4 hbw3
      go_wp2_with fail
      obtain ⟨q1, q2⟩ := two_cells (set_two (.string X) (.string Y) hx2)
      refine bodyPost_ret (v := .tuple #[.agg #[.string X, .string Y], .bool ok]) (by simp [q1, q2, results, Try.results16, go_sem]) rfl ⟨rfl, ?_⟩
      exact (hbw4.setCell (by show w.heap.size ≤ w.heap.size + 1 + 1; omega) _).setCell (by show w.heap.size ≤ w.heap.size + 1 + 1; omega) _
end Go.Proofs.Ytkpganpojdboeaa

/-! RegF -/
namespace Go.Proofs.Ytkpganpojdboeaa
open Go.RowKit

section
variable {P : Program} {ops : Array Oper} {md : Region.Mode} {w0 : World}

/-- In every world that leaves what was there, o yields v and leaves what is there. -/
def yR (P : Program) (ops : Array Oper) (w0 : World) (o : Oper) (v : Value) (a : Act) : Prop := ∀ w1, Cls w0 w1 → YieldsIn P ops (Cls w1) o v a

/-- The operations in the text's order. -/
def wpQuietR (P : Program) (ops : Array Oper) (w0 : World) (Q : Act → Prop) : List Oper → Act → Prop
  | [], a => Q a
  | o :: rest, a => ∃ v, yR P ops w0 o v a ∧ wpQuietR P ops w0 Q rest (a.put o.dst v)

theorem wpQuietR_nil {Q : Act → Prop} {a : Act} (h : Q a) : wpQuietR P ops w0 Q [] a := h
theorem wpQuietR_step {Q : Act → Prop} {a : Act} {o : Oper} {rest : List Oper}
    (h : ∀ K : Act → Prop, (∀ a, wpQuietR P ops w0 Q rest a → K a) → if Region.wanted o (yielded ops a.tmps) then ∃ v, (∀ w1, Cls w0 w1 → o.quietAt P a (Cls w1) w1 v) ∧ K (a.put o.dst v) else K (a.put o.dst undef)) : wpQuietR P ops w0 Q (o :: rest) a := by
  have := h _ (fun _ h => h)
  unfold wpQuietR
  by_cases hw : Region.wanted o (yielded ops a.tmps) = true
  · rw [if_pos hw] at this
    obtain ⟨v, h1, h2⟩ := this
    refine ⟨v, fun w1 hw1 => .inl ⟨hw, fun w2 hw2 => ?_⟩, h2⟩
    have h3 := h1 w2 (nx hw1 hw2)
    have h4 : ∀ w3, Cls w2 w3 → Cls w1 w3 := fun w3 hw3 => nx hw2 hw3
    unfold Oper.quietAt at *
    generalize (execOp a.eval o).run P w2 = r at *
    cases r with
    | ok n w' =>
      cases n <;> simp only [Oper.quietUpon] at h3 ⊢ <;> try exact h3
      exact ⟨h3.1, h3.2.mono fun _ _ ⟨e1, e2⟩ => ⟨e1, h4 _ e2⟩⟩
    | halt x w' => simp only [Oper.quietUpon] at h3
  · rw [if_neg hw] at this
    exact ⟨undef, fun w1 _ => .inr ⟨by simpa using hw, rfl⟩, this⟩

theorem quiet_wider {C C' : World → Prop} {o : Oper} {a : Act} {w : World} {v : Value} (h : ∀ w, C w → C' w) (hh : o.quietAt P a C w v) : o.quietAt P a C' w v := by
  unfold Oper.quietAt at *
  generalize (execOp a.eval o).run P w = r at *
  cases r with
  | ok n w' =>
    cases n <;> simp only [Oper.quietUpon] at hh ⊢ <;> try exact hh
    exact ⟨hh.1, hh.2.mono fun _ _ ⟨e1, e2⟩ => ⟨e1, h _ e2⟩⟩
  | halt x w' => simp only [Oper.quietUpon] at hh

/-- Operation i comes up. -/
def qR (P : Program) (ops : Array Oper) (w0 : World) (i : Nat) (K : Act → Prop) (a : Act) : Prop :=
  ∃ o v, ops[i]? = some o ∧ yR P ops w0 o v a ∧ K (a.put o.dst v)

/-- What has come up is closed. -/
structure ClInv (md : Region.Mode) (ops : Array Oper) (listed : Array Bool) : Prop where
  size : listed.size = ops.size
  closed : ∀ j oj, ops[j]? = some oj → listed.getD j false = true → ∀ e ∈ oj.after, Region.binds md e = true → listed.getD e.on false = true

theorem ClInv.set {i : Nat} {listed : Array Bool} (inv : ClInv md ops listed) (hi : i ∈ Region.ready md ops listed) : ClInv md ops (listed.setIfInBounds i true) := by
  obtain ⟨_, oi, hoi, hall⟩ := mem_ready.1 hi
  refine ⟨by simp [inv.size], fun j oj hj hl e he hb => ?_⟩
  by_cases hij : i = j
  · subst hij
    have : oj = oi := Option.some.inj (hj.symm.trans hoi)
    subst this
    exact getD_set_true (hall e he hb)
  · rw [getD_set_ne false hij] at hl
    exact getD_set_true (inv.closed j oj hj hl e he hb)

/-- Each of the first m waits for the next ones up to the last of them, and all behind them, number n aside, for that one. -/
def gateB (md : Region.Mode) (ops : Array Oper) (m n : Nat) : Bool :=
  ((List.range m).all fun i => decide (i + 1 = m) || (List.range m).any fun j => decide (i < j) && Region.waitsFor md ops j i) &&
  (List.range ops.size).all fun t => decide (t < m) || decide (t = n) || Region.waitsFor md ops t (m - 1)

theorem gate_waits {m n : Nat} {listed : Array Bool} (hg : gateB md ops m n = true) (inv : ClInv md ops listed) (_hm : m ≤ ops.size) :
    ∀ (d i : Nat), m - i = d → i < m → listed.getD i true = false → ∀ t, m ≤ t → t ≠ n → t ∉ Region.ready md ops listed := by
  simp only [gateB, Bool.and_eq_true] at hg
  obtain ⟨hs, hc⟩ := hg
  intro d
  induction d using Nat.strongRecOn with
  | _ d ih =>
    intro i hd hi hun t ht htn hr
    obtain ⟨_, ot, hot, hall⟩ := mem_ready.1 hr
    have htlt : t < ops.size := (Array.getElem?_eq_some_iff.1 hot).1
    by_cases him : i + 1 = m
    · have h1 := List.all_eq_true.1 hc t (List.mem_range.2 htlt)
      simp only [Bool.or_eq_true, decide_eq_true_eq] at h1
      rcases h1 with (h1 | h1) | h1
      · omega
      · exact htn h1
      · obtain ⟨o', ho', e, he, hb, hon⟩ := Region.waitsFor_spec h1
        obtain rfl : o' = ot := Option.some.inj (ho'.symm.trans hot)
        have h2 := hall e he hb
        rw [hon, show m - 1 = i by omega, getD_both hun] at h2
        cases h2
    · have h1 := List.all_eq_true.1 hs i (List.mem_range.2 hi)
      simp only [Bool.or_eq_true, decide_eq_true_eq, him, false_or] at h1
      obtain ⟨j, hj, hj2⟩ := List.any_eq_true.1 h1
      have hjm := List.mem_range.1 hj
      simp only [Bool.and_eq_true, decide_eq_true_eq] at hj2
      obtain ⟨oj, hoj, e, he, hb, hon⟩ := Region.waitsFor_spec hj2.2
      cases hl : listed.getD j false with
      | true =>
        have h2 := inv.closed j oj hoj hl e he hb
        rw [hon, getD_both hun] at h2
        cases h2
      | false =>
        exact ih (m - j) (by omega) j rfl (by omega) (getD_in (by rw [inv.size]; omega) hl) t ht htn hr

/-- Whatever order is drawn for the first m operations, number n aside. -/
def headF (P : Program) (md : Region.Mode) (ops : Array Oper) (w0 : World) (m n : Nat) (L : Array Bool → Act → Prop) : Nat → Array Bool → Act → Prop
  | 0, listed, a => L listed a
  | f + 1, listed, a => (∃ i ∈ Region.ready md ops listed, i ≠ n) ∧ ∀ i ∈ Region.ready md ops listed, i ≠ n → i < m ∧ qR P ops w0 i (headF P md ops w0 m n L f (listed.setIfInBounds i true)) a

theorem headF_first {m n i : Nat} {oi : Oper} {v : Value} {L : Array Bool → Act → Prop} (hi : ops[i]? = some oi) (hsel : ∀ (j : Nat) (o : Oper) cs b, ops[j]? = some o → o.op ≠ .select cs b)
    (hg : gateB md ops m n = true) (hm : m ≤ ops.size) (hmn : m ≤ n) (hin : i < m)
    (hdone : ∀ listed a, L listed a → ∀ j ∈ Region.ready md ops listed, m ≤ j) :
    ∀ (f : Nat) (listed : Array Bool) (a : Act), ClInv md ops listed →
      (∀ j oj, ops[j]? = some oj → j ≠ i → listed.getD j true = false → (∀ e ∈ oj.after, Region.binds md e = true → e.on ≠ i) → oi.apart ops oj = true) →
      i ∈ Region.ready md ops listed → yR P ops w0 oi v a →
      headF P md ops w0 m n L f (listed.setIfInBounds i true) (a.put oi.dst v) → headF P md ops w0 m n L (f + 1) listed a := by
  intro f
  induction f with
  | zero =>
    intro listed a inv _ hr hy H
    have hun := (mem_ready.1 hr).1
    refine ⟨⟨i, hr, by omega⟩, fun j hj hjn => ?_⟩
    have hjn' : j < m := Nat.lt_of_not_le fun h => gate_waits hg inv hm _ i rfl hin hun j h hjn hj
    refine ⟨hjn', ?_⟩
    by_cases hji : j = i
    · subst hji; exact ⟨oi, v, hi, hy, H⟩
    · have := hdone _ _ H j (ready_mono hj hji)
      omega
  | succ f ih =>
    intro listed a inv hfree hr hy H
    have hun := (mem_ready.1 hr).1
    refine ⟨⟨i, hr, by omega⟩, fun j hj hjn => ?_⟩
    have hjn' : j < m := Nat.lt_of_not_le fun h => gate_waits hg inv hm _ i rfl hin hun j h hjn hj
    refine ⟨hjn', ?_⟩
    by_cases hji : j = i
    · subst hji; exact ⟨oi, v, hi, hy, H⟩
    · obtain ⟨oj, u, hoj, hyj, k⟩ := (H.2 j (ready_mono hj hji) hjn).2
      obtain ⟨hjun, oj', hoj', hall⟩ := mem_ready.1 hj
      obtain rfl : oj' = oj := Option.some.inj (hoj'.symm.trans hoj)
      have hnot : ∀ e ∈ oj'.after, Region.binds md e = true → e.on ≠ i := by
        intro e he hb heq
        have k2 := hall e he hb
        rw [heq, getD_both hun] at k2
        cases k2
      have hap := hfree j oj' hoj hji hjun hnot
      obtain ⟨h1, h2, h3⟩ := Oper.apart_spec hap
      refine ⟨oj', u, hoj, fun w1 hw1 => (hyj w1 hw1).of_same (execOp_put oj' (fun cs b => hsel j oj' cs b hoj) a oi.dst v h1).symm (wanted_put oj' a oi.dst v h1).symm, ?_⟩
      refine ih (listed.setIfInBounds j true) (a.put oj'.dst u) (inv.set hj) ?_ (ready_mono hr (Ne.symm hji))
        (fun w1 hw1 => (hy w1 hw1).of_same (execOp_put oi (fun cs b => hsel i oi cs b hi) a oj'.dst u h3) (wanted_put oi a oj'.dst u h3)) ?_
      · intro k ok hk hki hunk hno
        refine hfree k ok hk hki ?_ hno
        by_cases hjk : j = k
        · subst hjk; exact hjun
        · rw [getD_set_ne true hjk] at hunk; exact hunk
      · rw [Array.setIfInBounds_comm _ _ hji, ← Act.put_comm a v u h2]
        exact k

/-- The first m, from number k on, in the text's order; then it is Z that has come up. -/
def lexF (md : Region.Mode) (ops : Array Oper) (m : Nat) (Z : Array Bool) : Nat → Nat → Array Bool → Bool
  | 0, _, listed => listed == Z && (Region.ready md ops Z).all fun j => decide (m ≤ j)
  | f + 1, k, listed => (Region.ready md ops listed).contains k && Region.free md ops listed k && lexF md ops m Z f (k + 1) (listed.setIfInBounds k true)

theorem lexF_done {m : Nat} {Z : Array Bool} : ∀ {f k : Nat} {listed : Array Bool}, lexF md ops m Z f k listed = true → ∀ j ∈ Region.ready md ops Z, m ≤ j
  | 0, _, _, h => by
    simp only [lexF, Bool.and_eq_true] at h
    exact fun j hj => by simpa using List.all_eq_true.1 h.2 j hj
  | f + 1, _, _, h => by
    simp only [lexF, Bool.and_eq_true] at h
    exact lexF_done h.2

theorem headF_lex {m n : Nat} {Z : Array Bool} {Lq : Act → Prop} (hsel : Region.noSelect ops = true) (hg : gateB md ops m n = true) (hm : m ≤ ops.size) (hmn : m ≤ n) :
    ∀ (l : List Oper) (k : Nat) (listed : Array Bool) (a : Act), (∀ j, j < l.length → l[j]? = ops[k + j]?) → k + l.length = m → ClInv md ops listed →
    lexF md ops m Z l.length k listed = true → wpQuietR P ops w0 Lq l a →
    headF P md ops w0 m n (fun listed' a' => listed' = Z ∧ Lq a') l.length listed a
  | [], k, listed, a, _, hk, _, hB, h => by
    simp only [List.length_nil, lexF, Bool.and_eq_true, beq_iff_eq] at hB
    exact ⟨hB.1, h⟩
  | o :: l, k, listed, a, hl, hk, inv, hB, h => by
    have h0 : ops[k]? = some o := by simpa using (hl 0 (by simp)).symm
    have hdone := lexF_done hB
    simp only [List.length_cons, lexF, Bool.and_eq_true] at hB
    obtain ⟨⟨hr, hf⟩, hB'⟩ := hB
    have hkn : k < m := by simp only [List.length_cons] at hk; omega
    have hr' : k ∈ Region.ready md ops listed := by simpa using hr
    obtain ⟨v, hy, hK⟩ := h
    refine headF_first h0 (Region.noSelect_spec hsel) hg hm hmn hkn (fun listed' a' hL => by rw [hL.1]; exact hdone) l.length listed a inv (Region.free_spec h0 hf) hr' hy ?_
    refine headF_lex hsel hg hm hmn l (k + 1) _ _ (fun j hj => ?_) (by simp only [List.length_cons] at hk; omega) (inv.set hr') hB' hK
    have := hl (j + 1) (by simp; omega)
    simpa [Nat.add_assoc, Nat.add_comm 1 j] using this

theorem wpOp_of_qR {i : Nat} {a : Act} {K : Act → Prop} {K' : Act → World → Prop} {Q' : Exit → Act → World → Prop} {w : World} (hC : Cls w0 w) (h : ∀ a w', Cls w w' → K a → K' a w') (hh : qR P ops w0 i K a) : wpOp P ops Q' i K' a w := by
  obtain ⟨o, v, ho, hy, hk⟩ := hh
  exact wpOp_of_qOp (C := Cls w) (Below.refl _ _) h ((hy w hC).qOp ho hk)

/-- No operation among the first m waits for number n or meets its slot; it waits for none. -/
def looseB (md : Region.Mode) (ops : Array Oper) (m n : Nat) : Bool :=
  (List.range m).all fun i => !Region.waitsFor md ops i n && match ops[n]?, ops[i]? with
    | some o, some oi => o.apart ops oi
    | _, _ => false

theorem looseB_spec {m n i : Nat} {o oi : Oper} (h : looseB md ops m n = true) (hi : i < m) (hn : ops[n]? = some o) (ho : ops[i]? = some oi) : o.apart ops oi = true ∧ ∀ e ∈ oi.after, Region.binds md e = true → e.on ≠ n := by
  have h1 := List.all_eq_true.1 h i (List.mem_range.2 hi)
  rw [hn, ho] at h1
  simp only [Bool.and_eq_true, Bool.not_eq_true'] at h1
  refine ⟨h1.2, fun e he hb heq => ?_⟩
  have h2 := h1.1
  unfold Region.waitsFor at h2
  rw [ho] at h2
  have h3 : (oi.after.any fun e => Region.binds md e && e.on == n) = true := Array.any_eq_true'.2 ⟨e, he, by simp [hb, heq]⟩
  dsimp only at h2
  rw [h3] at h2
  cases h2

def ptrV (g : Nat) : Value := .pointer (some ⟨g, 0, none⟩)

theorem heap_keepF {w w' : World} {g : Nat} {o : Obj} (hb : Cls w w') (h : w.heap[g]? = some o) : w'.heap[g]? = some o :=
  (Below.block hb g (by rcases Nat.lt_or_ge g w.heap.size with h' | h'; exact h'; rw [Array.getElem?_eq_none h'] at h; cases h)).trans h

/-- Once the cell is laid. -/
theorem any_post {m n g : Nat} {L : Array Bool → Act → Prop} {Q' : Exit → Act → World → Prop} {o : Oper} {X : Obj} (hsel : ∀ (j : Nat) (o : Oper) cs b, ops[j]? = some o → o.op ≠ .select cs b)
    (hgt : gateB md ops m n = true) (hm : m ≤ ops.size) (hn : n < ops.size) (hlo : looseB md ops m n = true) (ho : ops[n]? = some o)
    (hL : ∀ listed a w gp, L listed a → Cls w0 w → w.heap[gp]? = some X → w0.heap.size ≤ gp → wpAny P md ops Q' g (listed.setIfInBounds n true) (a.put o.dst (ptrV gp)) w) :
    ∀ (f : Nat) (listed : Array Bool) (a : Act) (w : World) (gp : Nat), listed.size = ops.size → ClInv md ops (listed.setIfInBounds n true) → Cls w0 w → w.heap[gp]? = some X → w0.heap.size ≤ gp →
      headF P md ops w0 m n L f listed a → wpAny P md ops Q' (f + g) (listed.setIfInBounds n true) (a.put o.dst (ptrV gp)) w := by
  intro f
  induction f with
  | zero => intro listed a w gp _ _ hw hx hg h; rw [Nat.zero_add]; exact hL _ _ _ _ h hw hx hg
  | succ f ih =>
    intro listed a w gp hsz inv hw hx hg h
    obtain ⟨⟨i0, hi0, hne⟩, hall⟩ := h
    have hi0n := (hall i0 hi0 hne).1
    have hr0 := ready_mono hi0 hne
    rw [Nat.add_right_comm]
    refine ⟨fun h0 => absurd h0 (List.ne_nil_of_mem hr0), fun i hi => ?_⟩
    obtain ⟨hun, oi, hoi, haft⟩ := mem_ready.1 hi
    have hin : i ≠ n := by
      rintro rfl
      have : (listed.setIfInBounds i true).getD i true = true := by
        rw [Array.getD_eq_getD_getElem?, Array.getElem?_setIfInBounds_self_of_lt (by omega)]; rfl
      rw [this] at hun; cases hun
    have hin' : i < m := Nat.lt_of_not_le fun h => gate_waits hgt inv hm _ i0 rfl hi0n (mem_ready.1 hr0).1 i h hin hi
    obtain ⟨hap, hno⟩ := looseB_spec hlo hin' ho hoi
    have hri : i ∈ Region.ready md ops listed := by
      refine mem_ready.2 ⟨by rw [getD_set_ne true (Ne.symm hin)] at hun; exact hun, oi, hoi, fun e he hb => ?_⟩
      have := haft e he hb
      rwa [getD_set_ne false (Ne.symm (hno e he hb))] at this
    obtain ⟨_, oi', v, hoi', hy, hk⟩ := hall i hri hin
    obtain rfl : oi' = oi := Option.some.inj (hoi'.symm.trans hoi)
    obtain ⟨h1, h2, h3⟩ := Oper.apart_spec hap
    refine wpOp_of_qR (K := fun a' => a' = (a.put o.dst (ptrV gp)).put oi'.dst v) hw (fun a' w' hw' he => ?_)
      ⟨oi', v, hoi, fun w1 hw1 => (hy w1 hw1).of_same (execOp_put oi' (fun cs b => hsel i oi' cs b hoi) a o.dst _ h1) (wanted_put oi' a o.dst _ h1), rfl⟩
    subst he
    rw [Act.put_comm a (ptrV gp) v h2, Array.setIfInBounds_comm _ _ (Ne.symm hin)]
    refine ih _ _ _ _ (by simp [hsz]) ?_ (nx hw hw') (heap_keepF hw' hx) hg hk
    rw [Array.setIfInBounds_comm _ _ hin]
    exact inv.set hi

/-- Before the cell is laid. -/
theorem any_pre {m n g : Nat} {L : Array Bool → Act → Prop} {Q' : Exit → Act → World → Prop} {o : Oper} {X : Obj} (hsel : ∀ (j : Nat) (o : Oper) cs b, ops[j]? = some o → o.op ≠ .select cs b)
    (hgt : gateB md ops m n = true) (hm : m ≤ ops.size) (hn : n < ops.size) (hlo : looseB md ops m n = true) (ho : ops[n]? = some o)
    (hW : ∀ t, Region.wanted o t = true) (hR : ∀ (a : Act) (w : World), (execOp a.eval o).run P w = .ok (.value (ptrV w.heap.size)) (w.alloc X))
    (hD : ∀ listed a w, L listed a → Cls w0 w → wpAny P md ops Q' (g + 1) listed a w)
    (hL : ∀ listed a w gp, L listed a → Cls w0 w → w.heap[gp]? = some X → w0.heap.size ≤ gp → wpAny P md ops Q' g (listed.setIfInBounds n true) (a.put o.dst (ptrV gp)) w) :
    ∀ (f : Nat) (listed : Array Bool) (a : Act) (w : World), ClInv md ops listed → Cls w0 w →
      headF P md ops w0 m n L f listed a → wpAny P md ops Q' (f + (g + 1)) listed a w := by
  intro f
  induction f with
  | zero =>
    intro listed a w inv hw h
    rw [Nat.zero_add]
    exact hD _ _ _ h hw
  | succ f ih =>
    intro listed a w inv hw h
    have h' := h
    obtain ⟨⟨i0, hi0, hne⟩, hall⟩ := h
    rw [Nat.add_right_comm]
    refine ⟨fun h0 => absurd h0 (List.ne_nil_of_mem hi0), fun i hi => ?_⟩
    by_cases hin : i = n
    · subst hin
      unfold wpOp
      simp only [ho, hW, if_true]
      left
      unfold Oper.wp
      rw [hR]
      simp only [Oper.upon]
      rw [show f + (g + 1) = (f + 1) + g by omega]
      exact any_post hsel hgt hm hn hlo ho hL (f + 1) listed a _ _ inv.size (inv.set hi) (nxAlloc hw _) (by show (w.heap.push X)[w.heap.size]? = _; simp) (Below.size hw) h'
    · obtain ⟨hlt, hq⟩ := hall i hi hin
      exact wpOp_of_qR hw (fun a' w' hw' hk => ih _ _ _ (inv.set hi) (nx hw hw') hk) hq

/-- The checks of a region whose first m operations are quiet, with a loose allocation at number n. -/
def floatB (md : Region.Mode) (ops : Array Oper) (m n : Nat) (Z : Array Bool) : Bool :=
  Region.noSelect ops && decide (m ≤ ops.size) && decide (m ≤ n) && decide (n < ops.size) && gateB md ops m n && looseB md ops m n && lexF md ops m Z m 0 (Array.replicate ops.size false)

theorem wpAny_mono {Q Q' : Exit → Act → World → Prop} (hQ : ∀ e a w, Q e a w → Q' e a w) : ∀ (f : Nat) (listed : Array Bool) (a : Act) (w : World), wpAny P md ops Q f listed a w → wpAny P md ops Q' f listed a w
  | 0, _, _, _, h => ⟨h.1, hQ _ _ _ h.2⟩
  | f + 1, listed, _, _, h => ⟨fun h0 => hQ _ _ _ (h.1 h0), fun i hi => by
      have h1 := wpOp_mono (fun a' w' h2 => wpAny_mono hQ f _ a' w' h2) (h.2 i hi)
      have hl : LetsOut Q → LetsOut Q' := fun ⟨a, w, h⟩ => ⟨a, w, hQ _ _ _ h⟩
      unfold wpOp at *
      split
      · rename_i ho; simpa only [ho] using h1
      · rename_i o ho
        simp only [ho] at h1
        split
        · rename_i hw
          simp only [hw, if_true] at h1
          refine h1.imp (fun h3 => ?_) (fun h3 => ⟨h3.1, hl h3.2⟩)
          unfold Oper.wp at *
          generalize (execOp _ o).run P _ = r at *
          cases r with
          | ok nx' w' =>
            cases nx' <;> simp only [Oper.upon] at h3 ⊢ <;> first
              | exact h3
              | exact Calls.mono h3 (fun e w'' he => by cases e <;> first | exact he | exact hQ _ _ _ he | exact hl he)
          | halt x w' =>
            cases x <;> simp only [Oper.upon] at h3 ⊢
            exact hQ _ _ _ h3
        · rename_i hw; simp only [hw] at h1; exact h1⟩

/-- Only the normal end. -/
def only (Q : Exit → Act → World → Prop) : Exit → Act → World → Prop := Exit.then (Q .normal) (fun _ _ _ => False)
theorem only_le {Q : Exit → Act → World → Prop} : ∀ e a w, only Q e a w → Q e a w := by
  intro e a w h
  cases e <;> first | exact h | exact False.elim h

/-- The first m operations are quiet; number n lays a cell, at any time; what else there is is shown in each order (the second time with the cell laid). -/
theorem wp_region_float {id : Nat} {Q : Exit → Act → World → Prop} {a : Act} {w : World} {l : List Oper} (m n : Nat) (Z : Array Bool) (o : Oper) (X : Obj) (hfm : P.follows .mixedOrders = true) (hB : floatB .any l.toArray m n Z = true)
    (ho' : l[n]? = some o) (hW : ∀ t, Region.wanted o t = true) (hR : ∀ (a : Act) (w : World), (execOp a.eval o).run P w = .ok (.value (ptrV w.heap.size)) (w.alloc X))
    (h : wpQuietR P l.toArray w (fun a' => (∀ w', Cls w w' → wpAny P .any l.toArray (only Q) (l.length - m) Z a' w') ∧
      ∀ gp w', Cls w w' → w'.heap[gp]? = some X → w.heap.size ≤ gp → wpAny P .any l.toArray (only Q) (l.length - m - 1) (Z.setIfInBounds n true) (a'.put o.dst (ptrV gp)) w') (l.take m) a) : (Code.region id l.toArray true).wp P Q a w := by
  simp only [floatB, Bool.and_eq_true, decide_eq_true_eq] at hB
  obtain ⟨⟨⟨⟨⟨⟨hsel, hm⟩, hmn⟩, hn⟩, hg⟩, hlo⟩, hlex⟩ := hB
  have ho : l.toArray[n]? = some o := by simpa using ho'
  have hm' : m ≤ l.length := by simpa using hm
  have hn' : n < l.length := by simpa using hn
  have htl : (l.take m).length = m := by simp; omega
  have inv0 : ClInv .any l.toArray (Array.replicate l.toArray.size false) := by
    refine ⟨by simp, fun j oj _ hl => ?_⟩
    rw [getD_replicate_false] at hl; cases hl
  have H := headF_lex (md := .any) (Z := Z) hsel hg hm hmn (l.take m) 0 _ a (fun j hj => by
    have hj' : j < m := by rw [htl] at hj; exact hj
    simp [hj']) (by simpa using htl) inv0 (by rw [htl]; exact hlex) h
  refine wp_region_any hfm (wpAny_mono only_le _ _ _ _ ?_)
  have := any_pre (Q' := only Q) (g := l.length - m - 1) (Region.noSelect_spec hsel) hg hm hn hlo ho hW hR
    (fun listed a' w' hL hw' => by
      have := hL.2.1 w' hw'
      rw [hL.1, show l.length - m - 1 + 1 = l.length - m by omega]
      exact this)
    (fun listed a' w' gp hL hw' hx hg => by rw [hL.1]; exact hL.2.2 gp w' hw' hx hg) _ _ _ _ inv0 ((Below.refl _ _).drew) H
  rw [htl, show m + (l.length - m - 1 + 1) = l.toArray.size by simp; omega] at this
  exact this
/-- Operations that yield one value in whatever world, in the text's order. -/
def wpPure (P : Program) (ops : Array Oper) (Q : Act → Prop) : List Oper → Act → Prop
  | [], a => Q a
  | o :: rest, a => ∃ v, Yields P ops o v a ∧ wpPure P ops Q rest (a.put o.dst v)
theorem wpPure_nil {Q : Act → Prop} {a : Act} (h : Q a) : wpPure P ops Q [] a := h
theorem wpPure_step {Q : Act → Prop} {a : Act} {o : Oper} {rest : List Oper}
    (h : ∀ K : Act → Prop, (∀ a, wpPure P ops Q rest a → K a) → if Region.wanted o (yielded ops a.tmps) then ∃ v, (∀ w, (execOp a.eval o).run P w = .ok (.value v) w) ∧ K (a.put o.dst v) else K (a.put o.dst undef)) : wpPure P ops Q (o :: rest) a := by
  have := h _ (fun _ h => h)
  unfold wpPure
  by_cases hw : Region.wanted o (yielded ops a.tmps) = true
  · rw [if_pos hw] at this
    obtain ⟨v, h1, h2⟩ := this
    exact ⟨v, .inl ⟨hw, h1⟩, h2⟩
  · rw [if_neg hw] at this
    exact ⟨undef, .inr ⟨by simpa using hw, rfl⟩, this⟩

/-- So many of them, from number k on, may be taken first; then all is forced from number e on. -/
def lexTo (md : Region.Mode) (ops : Array Oper) (g e : Nat) : Nat → Nat → Array Bool → Bool
  | 0, _, listed => Region.seqB md ops g e listed
  | f + 1, k, listed => (Region.ready md ops listed).contains k && Region.free md ops listed k && lexTo md ops g e f (k + 1) (listed.setIfInBounds k true)

theorem any_of_pure {g e : Nat} {Q' : Exit → Act → World → Prop} {C : World → Prop} {Lq : Act → Prop} (hsel : Region.noSelect ops = true) (hQ : ∀ c a w, ¬ Q' (.panic c) a w)
    (hL : ∀ listed a w, Region.seqB md ops g e listed = true → Lq a → C w → wpAny P md ops Q' g listed a w) :
    ∀ (l : List Oper) (k : Nat) (listed : Array Bool) (a : Act) (w : World), (∀ j, j < l.length → l[j]? = ops[k + j]?) → lexTo md ops g e l.length k listed = true → wpPure P ops Lq l a → C w → wpAny P md ops Q' (l.length + g) listed a w
  | [], _, listed, a, w, _, hB, h, hw => by
    rw [List.length_nil, Nat.zero_add]
    exact hL _ _ _ (by simpa [lexTo] using hB) h hw
  | o :: l, k, listed, a, w, hl, hB, h, hw => by
    have h0 : ops[k]? = some o := by simpa using (hl 0 (by simp)).symm
    simp only [List.length_cons, lexTo, Bool.and_eq_true] at hB
    obtain ⟨⟨hr, hf⟩, hB'⟩ := hB
    obtain ⟨v, hy, hK⟩ := h
    rw [List.length_cons, Nat.add_right_comm]
    refine wpAny_first h0 (Region.noSelect_spec hsel) (fun c a w h => absurd h (hQ _ _ _)) _ listed a w (Region.free_spec h0 hf) (by simpa using hr) hy ?_
    refine any_of_pure hsel hQ hL l (k + 1) _ _ w (fun j hj => ?_) hB' hK hw
    have := hl (j + 1) (by simp; omega)
    simpa [Nat.add_assoc, Nat.add_comm 1 j] using this

theorem wpPure_put {o : Oper} {x : Value} {Lq : Act → Prop} (hsel : ∀ (j : Nat) (o : Oper) cs b, ops[j]? = some o → o.op ≠ .select cs b) : ∀ (l : List Oper) (k : Nat) (a : Act), (∀ j, j < l.length → l[j]? = ops[k + j]?) → (∀ oi ∈ l, o.apart ops oi = true) →
    wpPure P ops (fun a => Lq (a.put o.dst x)) l a → wpPure P ops Lq l (a.put o.dst x)
  | [], _, _, _, _, h => h
  | oi :: l, k, a, hl, hap, h => by
    have h0 : ops[k]? = some oi := by simpa using (hl 0 (by simp)).symm
    obtain ⟨v, hy, hK⟩ := h
    obtain ⟨h1, h2, _⟩ := Oper.apart_spec (hap oi (by simp))
    refine ⟨v, hy.of_same (execOp_put oi (fun cs b => hsel k oi cs b h0) a o.dst x h1) (wanted_put oi a o.dst x h1), ?_⟩
    rw [Act.put_comm a x v h2]
    refine wpPure_put hsel l (k + 1) _ (fun j hj => ?_) (fun o' ho' => hap o' (by simp [ho'])) hK
    have := hl (j + 1) (by simp; omega)
    simpa [Nat.add_assoc, Nat.add_comm 1 j] using this

theorem wpQuietR_mono {Q Q' : Act → Prop} (h : ∀ a, Q a → Q' a) : ∀ (l : List Oper) (a : Act), wpQuietR P ops w0 Q l a → wpQuietR P ops w0 Q' l a
  | [], a, hh => h a hh
  | _ :: l, _, ⟨v, h1, h2⟩ => ⟨v, h1, wpQuietR_mono h l _ h2⟩
theorem wpPure_mono {Q Q' : Act → Prop} (h : ∀ a, Q a → Q' a) : ∀ (l : List Oper) (a : Act), wpPure P ops Q l a → wpPure P ops Q' l a
  | [], a, hh => h a hh
  | _ :: l, _, ⟨v, h1, h2⟩ => ⟨v, h1, wpPure_mono h l _ h2⟩

/-- The checks, with pure operations m .. n-1 between. -/
def floatPB (md : Region.Mode) (ops : Array Oper) (m n : Nat) (Z : Array Bool) : Bool :=
  floatB md ops m n Z && ((ops.toList.drop m).take (n - m)).all (fun oi => match ops[n]? with
    | some o => o.apart ops oi
    | none => false) &&
  lexTo md ops (ops.size - n) n (n - m) m Z && lexTo md ops (ops.size - n - 1) (n + 1) (n - m) m (Z.setIfInBounds n true)

/-- The first m operations are quiet, those from m up to n pure; number n lays a cell, at any time; the rest, in one forced order, is walked. -/
theorem wp_region_floatP {id : Nat} {Q : Exit → Act → World → Prop} {a : Act} {w : World} {l : List Oper} (m n : Nat) (Z : Array Bool) (o : Oper) (X : Obj) (hfm : P.follows .mixedOrders = true) (hB : floatPB .any l.toArray m n Z = true)
    (ho' : l[n]? = some o) (hW : ∀ t, Region.wanted o t = true) (hR : ∀ (a : Act) (w : World), (execOp a.eval o).run P w = .ok (.value (ptrV w.heap.size)) (w.alloc X))
    (h : wpQuietR P l.toArray w (wpPure P l.toArray (fun a' => ∀ gp w', Cls w w' → w'.heap[gp]? = some X → w.heap.size ≤ gp → wpList P l.toArray (only Q) (l.drop (n + 1)) (a'.put o.dst (ptrV gp)) w') ((l.drop m).take (n - m))) (l.take m) a) : (Code.region id l.toArray true).wp P Q a w := by
  simp only [floatPB, Bool.and_eq_true] at hB
  obtain ⟨⟨⟨hB, hap⟩, hp1⟩, hp2⟩ := hB
  have ho : l.toArray[n]? = some o := by simpa using ho'
  have hB' := hB
  simp only [floatB, Bool.and_eq_true, decide_eq_true_eq] at hB'
  obtain ⟨⟨⟨⟨⟨⟨hsel, hm⟩, hmn⟩, hn⟩, _⟩, _⟩, _⟩ := hB'
  have hn' : n < l.length := by simpa using hn
  have hsz : l.toArray.size = l.length := by simp
  have hln : ((l.drop m).take (n - m)).length = n - m := by simp; omega
  have hget : ∀ j, j < ((l.drop m).take (n - m)).length → ((l.drop m).take (n - m))[j]? = l.toArray[m + j]? := by
    intro j hj
    rw [hln] at hj
    simp [hj]
  have hap' : ∀ oi ∈ (l.drop m).take (n - m), o.apart l.toArray oi = true := by
    intro oi hoi
    have := List.all_eq_true.1 hap oi (by simpa using hoi)
    rw [ho] at this
    exact this
  refine wp_region_float m n Z o X hfm hB ho' hW hR (wpQuietR_mono (fun a' ha' => ⟨fun w' hw' => ?_, fun gp w' hw' hx hg => ?_⟩) _ _ h)
  · have := any_of_pure (md := .any) (g := l.toArray.size - n) (e := n) (Q' := only Q) (C := Cls w) hsel (fun _ _ _ h => h) (fun listed a w1 hq hL hw1 => by
      have eg : l.toArray.size - n = (l.length - n - 1) + 1 := by omega
      rw [eg] at hq ⊢
      simp only [Region.seqB, Bool.and_eq_true, decide_eq_true_eq] at hq
      refine ⟨fun h0 => (by rw [hq.1] at h0; cases h0), fun i hi => ?_⟩
      rw [hq.1] at hi
      obtain rfl : i = n := by simpa using hi
      unfold wpOp
      simp only [ho, hW, if_true]
      left
      unfold Oper.wp
      rw [hR]
      simp only [Oper.upon]
      have hdl : (l.drop (i + 1)).length = l.length - i - 1 := by simp; omega
      have := wpAny_of_seq (md := .any) (Q' := only Q) (l.drop (i + 1)) (i + 1) (listed.setIfInBounds i true) _ _ (fun j => by simp [List.getElem?_drop]) (by rw [hdl]; exact hq.2) (hL w1.heap.size _ (nxAlloc hw1 X) (by show (w1.heap.push X)[w1.heap.size]? = _; simp) (Below.size hw1))
      rwa [hdl] at this) _ m Z a' w' hget (by rw [hln]; exact hp1) ha' hw'
    rw [hln, show n - m + (l.toArray.size - n) = l.length - m by omega] at this
    exact this
  · have hdl : (l.drop (n + 1)).length = l.toArray.size - n - 1 := by simp; omega
    have hP := wpPure_put (o := o) (x := ptrV gp) (Lq := fun a => ∀ w', Cls w w' → w'.heap[gp]? = some X → wpList P l.toArray (only Q) (l.drop (n + 1)) a w') (Region.noSelect_spec hsel) _ m a' hget hap' (wpPure_mono (fun a h w' hw' hx => h gp w' hw' hx hg) _ _ ha')
    have := any_of_pure (md := .any) (g := l.toArray.size - n - 1) (e := n + 1) (Q' := only Q) (C := fun w' => Cls w w' ∧ w'.heap[gp]? = some X) hsel (fun _ _ _ h => h) (fun listed a w1 hq hL hw1 => by
      have := wpAny_of_seq (md := .any) (Q' := only Q) (l.drop (n + 1)) (n + 1) listed a w1 (fun j => by simp [List.getElem?_drop]) (by rw [hdl]; exact hq) (hL w1 hw1.1 hw1.2)
      rwa [hdl] at this) _ m _ _ w' hget (by rw [hln]; exact hp2) hP ⟨hw', hx⟩
    rw [hln, show n - m + (l.toArray.size - n - 1) = l.length - m - 1 by omega] at this
    exact this
end
/-- What follows behind a variable. -/
theorem only_hide {P : Program} {ops : Array Oper} {Q : Exit → Act → World → Prop} {l : List Oper} {a : Act} {w : World}
    (h : ∀ K : Act → World → Prop, (∀ a w, Q .normal a w → K a w) → wpList P ops (Exit.then K (fun _ _ _ => False)) l a w) : wpList P ops (only Q) l a w := h (Q .normal) (fun _ _ h => h)
theorem callR {P : Program} {f : FuncId} {args : Array Value} {w : World} {v : Value} (k : Calls P f args w (Gives v w)) : Calls P f args w fun e w'' => e = .returned v ∧ Cls w w'' := k
end Go.Proofs.Ytkpganpojdboeaa

/-! WConjugatePair -/
namespace Go.Proofs.Ytkpganpojdboeaa
open Go.RowKit

set_option maxRecDepth 100000 in
set_option maxHeartbeats 1000000 in
theorem fnExactConjugatePair_walk (a0 : ByteArray) (ha0 : a0.size ≤ maxLen) (b0 : ByteArray) (hb0 : b0.size ≤ maxLen) (a1 : ByteArray) (ha1 : a1.size ≤ maxLen) (b1 : ByteArray) (hb1 : b1.size ≤ maxLen) (w : World) :
    Calls Try.prog 3 #[.agg #[.string a0, .string b0], .agg #[.string a1, .string b1]] w fun e w' => e = .returned (.bool true) ∧ Below w.heap.size w w' := by
  unfold maxLen at ha0 hb0 ha1 hb1
  have hsz0 := fun w => szPair_any a0 b0 w (by omega) (by omega) 1048576 (by omega) (by omega)
  by_cases hz0 : (a0.size : Int) + b0.size ≤ 1048576
  rotate_left
  · simp only [if_neg hz0] at hsz0
    go_enter Try.func3, Try.ntmps3
    go_wp2_with fail
    have hb0 : Below w.heap.size w ((w.alloc (.cells #[.string a0, .string b0] 23 (0, 0))).alloc (.cells #[.string a1, .string b1] 23 (0, 0))) := nxAlloc (nxAlloc (Below.refl _ _) _) _
    have hx0 := heap_keep (nxAlloc (Below.refl _ _) (.cells #[.string a1, .string b1] 23 (0, 0))) (heap_alloc_at w (.cells #[.string a0, .string b0] 23 (0, 0)))
    have hx1 := heap_alloc_at (w.alloc (.cells #[.string a0, .string b0] 23 (0, 0))) (.cells #[.string a1, .string b1] 23 (0, 0))
    generalize ((w.alloc (.cells #[.string a0, .string b0] 23 (0, 0))).alloc (.cells #[.string a1, .string b1] 23 (0, 0))) = w0 at *
    have e1 : (w.alloc (.cells #[.string a0, .string b0] 23 (0, 0))).heap.size = w.heap.size + 1 := by simp
    rw [e1] at hx1
    clear e1
    obtain ⟨ka0, kb0, kc0⟩ := two_facts hx0
    obtain ⟨ka1, kb1, kc1⟩ := two_facts hx1
    refine (hsz0 _).mono ?_; rintro e w1 ⟨rfl, hb1⟩
    have hbw1 := nx hb0 hb1
    replace hx0 := heap_keep hb1 hx0
    clear ka0 kb0 kc0
    obtain ⟨ka0, kb0, kc0⟩ := two_facts hx0
    replace hx1 := heap_keep hb1 hx1
    clear ka1 kb1 kc1
    obtain ⟨ka1, kb1, kc1⟩ := two_facts hx1
    clear hb1 hb0
    go_wp2_with fail
    go_ret
    exact ⟨rfl, hbw1⟩
  simp only [if_pos hz0] at hsz0
  have hsz1 := fun w => szPair_any a1 b1 w (by omega) (by omega) (1048576 - (a0.size : Int) - b0.size) (by omega) (by omega)
  by_cases hz1 : (a1.size : Int) + b1.size ≤ (1048576 - (a0.size : Int) - b0.size)
  rotate_left
  · simp only [if_neg hz1] at hsz1
    go_enter Try.func3, Try.ntmps3
    go_wp2_with fail
    have hb0 : Below w.heap.size w ((w.alloc (.cells #[.string a0, .string b0] 23 (0, 0))).alloc (.cells #[.string a1, .string b1] 23 (0, 0))) := nxAlloc (nxAlloc (Below.refl _ _) _) _
    have hx0 := heap_keep (nxAlloc (Below.refl _ _) (.cells #[.string a1, .string b1] 23 (0, 0))) (heap_alloc_at w (.cells #[.string a0, .string b0] 23 (0, 0)))
    have hx1 := heap_alloc_at (w.alloc (.cells #[.string a0, .string b0] 23 (0, 0))) (.cells #[.string a1, .string b1] 23 (0, 0))
    generalize ((w.alloc (.cells #[.string a0, .string b0] 23 (0, 0))).alloc (.cells #[.string a1, .string b1] 23 (0, 0))) = w0 at *
    have e1 : (w.alloc (.cells #[.string a0, .string b0] 23 (0, 0))).heap.size = w.heap.size + 1 := by simp
    rw [e1] at hx1
    clear e1
    obtain ⟨ka0, kb0, kc0⟩ := two_facts hx0
    obtain ⟨ka1, kb1, kc1⟩ := two_facts hx1
    refine (hsz0 _).mono ?_; rintro e w1 ⟨rfl, hb1⟩
    have hbw1 := nx hb0 hb1
    replace hx0 := heap_keep hb1 hx0
    clear ka0 kb0 kc0
    obtain ⟨ka0, kb0, kc0⟩ := two_facts hx0
    replace hx1 := heap_keep hb1 hx1
    clear ka1 kb1 kc1
    obtain ⟨ka1, kb1, kc1⟩ := two_facts hx1
    clear hb1 hb0
    go_wp2_with fail
    refine (hsz1 _).mono ?_; rintro e w2 ⟨rfl, hb2⟩
    have hbw2 := nx hbw1 hb2
    replace hx0 := heap_keep hb2 hx0
    clear ka0 kb0 kc0
    obtain ⟨ka0, kb0, kc0⟩ := two_facts hx0
    replace hx1 := heap_keep hb2 hx1
    clear ka1 kb1 kc1
    obtain ⟨ka1, kb1, kc1⟩ := two_facts hx1
    clear hb2 hbw1
    go_wp2_with fail
    go_ret
    exact ⟨rfl, hbw2⟩
  simp only [if_pos hz1] at hsz1
  have hS := fun w => specConjugatePair_any a0 b0 a1 b1 w (by omega) (by omega) (by omega) (by omega)
  have hI := fun w => implConjugatePair_any a0 b0 a1 b1 w (by omega) (by omega) (by omega) (by omega)
  have hS' : ∀ w, Calls Try.prog 14 #[.agg #[.string a0, .string b0], .agg #[.string a1, .string b1]] w (Gives (ansPr ((pairOf a0 b0).bind fun p => (pairOf a1 b1).bind fun q => limP (conP p q))) w) := hS
  have hI' : ∀ w, Calls Try.prog 16 #[.agg #[.string a0, .string b0], .agg #[.string a1, .string b1]] w (Gives (ansPr ((pairOf a0 b0).bind fun p => (pairOf a1 b1).bind fun q => limP (conP p q))) w) := hI
  clear hS hI
  generalize ((pairOf a0 b0).bind fun p => (pairOf a1 b1).bind fun q => limP (conP p q)) = o at hS' hI'
  unfold ansPr at hS' hI'
  generalize pS1 o = A at hS' hI'
  generalize pS2 o = B at hS' hI'
  generalize o.isSome = ok at hS' hI'
  clear o
  go_enter Try.func3, Try.ntmps3
  go_wp2_with fail
  have hb0 : Below w.heap.size w ((w.alloc (.cells #[.string a0, .string b0] 23 (0, 0))).alloc (.cells #[.string a1, .string b1] 23 (0, 0))) := nxAlloc (nxAlloc (Below.refl _ _) _) _
  have hx0 := heap_keep (nxAlloc (Below.refl _ _) (.cells #[.string a1, .string b1] 23 (0, 0))) (heap_alloc_at w (.cells #[.string a0, .string b0] 23 (0, 0)))
  have hx1 := heap_alloc_at (w.alloc (.cells #[.string a0, .string b0] 23 (0, 0))) (.cells #[.string a1, .string b1] 23 (0, 0))
  generalize ((w.alloc (.cells #[.string a0, .string b0] 23 (0, 0))).alloc (.cells #[.string a1, .string b1] 23 (0, 0))) = w0 at *
  have e1 : (w.alloc (.cells #[.string a0, .string b0] 23 (0, 0))).heap.size = w.heap.size + 1 := by simp
  rw [e1] at hx1
  clear e1
  obtain ⟨ka0, kb0, kc0⟩ := two_facts hx0
  obtain ⟨ka1, kb1, kc1⟩ := two_facts hx1
  refine (hsz0 _).mono ?_; rintro e w1 ⟨rfl, hb1⟩
  have hbw1 := nx hb0 hb1
  replace hx0 := heap_keep hb1 hx0
  clear ka0 kb0 kc0
  obtain ⟨ka0, kb0, kc0⟩ := two_facts hx0
  replace hx1 := heap_keep hb1 hx1
  clear ka1 kb1 kc1
  obtain ⟨ka1, kb1, kc1⟩ := two_facts hx1
  clear hb1 hb0
  go_wp2_with fail
  refine (hsz1 _).mono ?_; rintro e w2 ⟨rfl, hb2⟩
  have hbw2 := nx hbw1 hb2
  replace hx0 := heap_keep hb2 hx0
  clear ka0 kb0 kc0
  obtain ⟨ka0, kb0, kc0⟩ := two_facts hx0
  replace hx1 := heap_keep hb2 hx1
  clear ka1 kb1 kc1
  obtain ⟨ka1, kb1, kc1⟩ := two_facts hx1
  clear hb2 hbw1
  go_wp2_with fail
  refine wp_region_floatP 6 8 #[true, true, true, true, true, true, false, false, false, false, false] _ (.cells #[.string ⟨#[]⟩, .string ⟨#[]⟩] 25 (0, 0)) (by kernel_rfl) (by kernel_rfl) rfl (fun _ => rfl) (fun _ _ => rfl) ?_
  simp only [List.take_succ_cons, List.take_zero, List.drop_succ_cons, List.drop_zero, Nat.reduceSub]
  repeat (
    refine wpQuietR_step (fun K hK => ?_)
    go_simp
    first
      | (refine hK _ ?_; clear hK K)
      | (refine ⟨_, fun _ _ => rfl, hK _ ?_⟩; clear hK K)
      | (apply Exists.intro
         refine ⟨fun w' hw' => ?_, hK _ ?_⟩
         · first
             | (go_at_call 15; first | (with_reducible exact callR (toPair_any a0 b0 _)) | (with_reducible exact callR (toPair_any a1 b1 _)))
             | (go_at_call 14; exact callR (hS' _))
             | (rw [hw'.cell kc0 ka0]; dsimp only [Result.andThen]; rw [hw'.cell kc0 kb0]; exact ⟨rfl, rfl⟩)
             | (rw [hw'.cell kc1 ka1]; dsimp only [Result.andThen]; rw [hw'.cell kc1 kb1]; exact ⟨rfl, rfl⟩)
         clear hK K))
  refine wpQuietR_nil ?_
  repeat (refine wpPure_step (fun K hK => ?_); go_simp; first | (refine hK _ ?_; clear hK K) | (refine ⟨_, fun _ => rfl, hK _ ?_⟩; clear hK K))
  refine wpPure_nil ?_
  intro g0 w' hw' hx hg
  dsimp only [ptrV]
  obtain ⟨xa, xb, xc⟩ := two_facts hx
  obtain ⟨xf, xg⟩ := two_frozen hx
  refine only_hide (fun K hK => ?_)
  have HK := Lib.hid hK
  clear hK
  go_wp2_with fail
  refine HK.out _ _ ?_
  clear HK K xa xb xc xf xg
  have hB : Below w2.heap.size w2 ((w'.setCell ⟨g0, 0, none⟩ (.string A)).setCell ⟨g0, 1, none⟩ (.string B)) := (Below.setCell hw' hg _).setCell hg _
  have hy0 := set_two (.string A) (.string B) hx
  have hbw3 := nx hbw2 hB
  replace hx0 := heap_keep hB hx0
  clear ka0 kb0 kc0
  replace hx1 := heap_keep hB hx1
  clear ka1 kb1 kc1
  clear hB hbw2
  generalize (w'.setCell ⟨g0, 0, none⟩ (.string A)).setCell ⟨g0, 1, none⟩ (.string B) = w3 at *
  clear hw' hx hg w'
  obtain ⟨ka0, kb0, kc0⟩ := two_facts hx0
  obtain ⟨ka1, kb1, kc1⟩ := two_facts hx1
  obtain ⟨hy0a, hy0b, hy0c⟩ := two_facts hy0
  go_wp2_with fail
  refine wp_region_floatP 6 8 #[true, true, true, true, true, true, false, false, false, false, false] _ (.cells #[.string ⟨#[]⟩, .string ⟨#[]⟩] 25 (0, 0)) (by kernel_rfl) (by kernel_rfl) rfl (fun _ => rfl) (fun _ _ => rfl) ?_
  simp only [List.take_succ_cons, List.take_zero, List.drop_succ_cons, List.drop_zero, Nat.reduceSub]
  repeat (
    refine wpQuietR_step (fun K hK => ?_)
    go_simp
    first
      | (refine hK _ ?_; clear hK K)
      | (refine ⟨_, fun _ _ => rfl, hK _ ?_⟩; clear hK K)
      | (apply Exists.intro
         refine ⟨fun w' hw' => ?_, hK _ ?_⟩
         · first
             | (go_at_call 15; first | (with_reducible exact callR (toPair_any a0 b0 _)) | (with_reducible exact callR (toPair_any a1 b1 _)))
             | (go_at_call 16; exact callR (hI' _))
             | (rw [hw'.cell kc0 ka0]; dsimp only [Result.andThen]; rw [hw'.cell kc0 kb0]; exact ⟨rfl, rfl⟩)
             | (rw [hw'.cell kc1 ka1]; dsimp only [Result.andThen]; rw [hw'.cell kc1 kb1]; exact ⟨rfl, rfl⟩)
         clear hK K))
  refine wpQuietR_nil ?_
  repeat (refine wpPure_step (fun K hK => ?_); go_simp; first | (refine hK _ ?_; clear hK K) | (refine ⟨_, fun _ => rfl, hK _ ?_⟩; clear hK K))
  refine wpPure_nil ?_
  intro g1 w' hw' hx hg
  dsimp only [ptrV]
  obtain ⟨xa, xb, xc⟩ := two_facts hx
  obtain ⟨xf, xg⟩ := two_frozen hx
  refine only_hide (fun K hK => ?_)
  have HK := Lib.hid hK
  clear hK
  go_wp2_with fail
  refine HK.out _ _ ?_
  clear HK K xa xb xc xf xg
  have hB : Below w3.heap.size w3 ((w'.setCell ⟨g1, 0, none⟩ (.string A)).setCell ⟨g1, 1, none⟩ (.string B)) := (Below.setCell hw' hg _).setCell hg _
  have hy1 := set_two (.string A) (.string B) hx
  have hbw4 := nx hbw3 hB
  replace hx0 := heap_keep hB hx0
  clear ka0 kb0 kc0
  replace hx1 := heap_keep hB hx1
  clear ka1 kb1 kc1
  replace hy0 := heap_keep hB hy0
  clear hy0a hy0b hy0c
  clear hB hbw3
  generalize (w'.setCell ⟨g1, 0, none⟩ (.string A)).setCell ⟨g1, 1, none⟩ (.string B) = w4 at *
  clear hw' hx hg w'
  obtain ⟨ka0, kb0, kc0⟩ := two_facts hx0
  obtain ⟨ka1, kb1, kc1⟩ := two_facts hx1
  obtain ⟨hy0a, hy0b, hy0c⟩ := two_facts hy0
  obtain ⟨hy1a, hy1b, hy1c⟩ := two_facts hy1
  go_wp2_with fail
  refine (eqPair_same A B _).mono ?_; rintro e wz ⟨rfl, hbz⟩
  go_wp2_with fail
  go_ret
  exact ⟨rfl, nx hbw4 hbz⟩
end Go.Proofs.Ytkpganpojdboeaa

/-! LFnExactConjugatePair -/
namespace Go.Proofs.Ytkpganpojdboeaa.fnExactConjugatePair
open Go.ChangeShapes Go.WideShapes Go.ChangeAt Go.RowKit
open Go.ChangeMaps (open_string shut_string)
open Go.Joins (open_agg2 shut_agg2)
set_option linter.unusedVariables false

theorem cellsPair : Try.prog.cellsOf 23 = 2 := by kernel_rfl
theorem own : ownKnob Try.prog.godebug = none := by kernel_rfl
theorem laidOut : laidOutB Try.prog = true := by kernel_rfl

set_option maxRecDepth 100000 in
theorem lifted (os : Os) (started : os.Started) (H : Type) (enc : TypeId × Value → H) :
    ReturnsInHanded {} Try.checked os 3 .any (Rows.fnExactConjugatePairSpec.pre6 enc Try.prog Try.f3 Rows.fnExactConjugatePairRow.domain false) (Rows.fnExactConjugatePairSpec.post enc Try.prog Try.f3 false true false false) := by
  refine returnsInHanded_of_change (C := Try.checked) own started (by kernel_rfl) Try.func3
    (ChangeSpec.witness6 (enc := enc) (C := Try.checked) false ⟨#[], #[.agg #[.string ByteArray.empty, .string ByteArray.empty], .agg #[.string ByteArray.empty, .string ByteArray.empty]], []⟩ 8 (by kernel_rfl) (by kernel_rfl) (by kernel_rfl) (by kernel_rfl)) ?_
  intro W base args ds gs before hval0 hW hcnd _
  have hval : ∀ (j : Nat) t v, Try.f3.params[j]? = some t → args[j]? = some v → Value.okWide Try.prog W .any base t v := hval0
  have hW' := hW
  obtain ⟨p, q, hA0, hV, rfl, hfz, hnd⟩ := hW
  have hA : DataW.TrodAll enc Try.prog W 0 (fun _ => true) true Try.f3.params.toList args.toList ds p := hA0
  rw [Try.params3] at hA hval
  obtain ⟨v0, vs0, d0, ds0, p0, q0, hargs, rfl, rfl, h0, r0⟩ := trodAll_cons hA
  obtain ⟨v1, vs1, d1, ds1, p1, q1, rfl, rfl, rfl, h1, r1⟩ := trodAll_cons r0
  obtain ⟨rfl, rfl, rfl⟩ := trodAll_nil r1
  obtain rfl : args = #[v0, v1] := by cases args; simp_all
  obtain ⟨rfl, rfl⟩ := trodVars_none hV
  obtain ⟨c0a, c0b, y0a, y0b, m0, rfl, rfl, rfl, hy0a, hy0b⟩ := open_agg2 Try.underlying23 (by kernel_rfl) cellsPair (hval 0 23 v0 rfl rfl) h0
  obtain ⟨a0a, e0a, rfl, w0a⟩ := DataW.trod_string Try.underlying9 hy0a
  obtain ⟨a0b, e0b, rfl, w0b⟩ := DataW.trod_string Try.underlying9 hy0b
  simp at e0a e0b
  subst e0a e0b
  obtain ⟨c1a, c1b, y1a, y1b, m1, rfl, rfl, rfl, hy1a, hy1b⟩ := open_agg2 Try.underlying23 (by kernel_rfl) cellsPair (hval 1 23 v1 rfl rfl) h1
  obtain ⟨a1a, e1a, rfl, w1a⟩ := DataW.trod_string Try.underlying9 hy1a
  obtain ⟨a1b, e1b, rfl, w1b⟩ := DataW.trod_string Try.underlying9 hy1b
  simp at e1a e1b
  subst e1a e1b
  clear hA0 hval0
  simp only [List.append_nil] at hW'
  refine (fnExactConjugatePair_walk a0a w0a a0b w0b a1a w1a a1b w1b W).mono fun e W' ⟨he, bel⟩ => ?_
  subst he
  exact ⟨_, rfl, _, _, _, [], _, [], hW', trodAll_mk1 (shut_bool Try.underlying4 _), (trodAll_cons_mk (shut_agg2 (y0 := (.lit (.string a0a.data.toList), [])) (y1 := (.lit (.string a0b.data.toList), [])) Try.underlying23 (by kernel_rfl) cellsPair (Go.Deep.shut_string_cell Try.underlying9 w0a) (Go.Deep.shut_string_cell Try.underlying9 w0b)) (trodAll_cons_mk (shut_agg2 (y0 := (.lit (.string a1a.data.toList), [])) (y1 := (.lit (.string a1b.data.toList), [])) Try.underlying23 (by kernel_rfl) cellsPair (Go.Deep.shut_string_cell Try.underlying9 w1a) (Go.Deep.shut_string_cell Try.underlying9 w1b)) trodAll_mk0)), rfl, bel.frame _, fun h => by cases h⟩

theorem over : Rows.fnExactConjugatePairRow.holds Try.pinned (OpenSpec.ofChange Rows.fnExactConjugatePairSpec) :=
  OpenClaim.holds_of_wide 3 Try.f3 rfl rfl rfl rfl rfl rfl rfl ⟨rfl, rfl, rfl, rfl, rfl⟩ rfl rfl rfl rfl rfl (by kernel_rfl) Try.func3 (by kernel_rfl)
    (of_decide_eq_true (by kernel_rfl)) (by unfold Func.isWrapper; first | (rw [if_pos (by decide +kernel)]; kernel_rfl) | (rw [if_neg (by decide +kernel)]; exact ⟨rfl, rfl⟩))
    (fun os started H enc _ => lifted os started H enc)

theorem proved : Rows.FnExactConjugatePairSaid := over
#print axioms proved
end Go.Proofs.Ytkpganpojdboeaa.fnExactConjugatePair
