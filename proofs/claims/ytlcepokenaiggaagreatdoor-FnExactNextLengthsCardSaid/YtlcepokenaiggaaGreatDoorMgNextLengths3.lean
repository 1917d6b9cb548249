/- FnExactNextLengths: for every input the law returns true and leaves its arguments as they were. No conditions. -/
import Derived.Test.YtlcepokenaiggaaGreatDoorMgNextLengths2
import Derived.Lib.Bytealg
import Derived.Deep.AppendLies
import Derived.Lib.AppendIntMem
import Derived.Lib.LaidTab
import Derived.OpenVars
import Derived.ChangeVars
import Derived.Test.YtlcepokenaiggaaGreatDoorCards
import Derived.Test.YtlcepokenaiggaaGreatDoorTie
import Derived.LaidMore
import Derived.Lay
import Derived.SevenTiedAt
import Derived.Stop.Joined
import Derived.ProofKit
import Derived.OpenShut
import Derived.ShutString
import Derived.ChangeOld
import Derived.Below
import Derived.Lib.SmallJoins
/-! EqP -/
namespace Go.Proofs.YtlcepokenaiggaaGreatDoor

theorem red_first0 {p : Pr} (hl : 0 < (both p).length) : red p = red (dropP p ((both p).getD 0 0)) := by
  cases h : both p with
  | nil => rw [h] at hl; simp at hl
  | cons n ns =>
    have := redBy_step h []
    exact this
theorem mem_nd {x y : Tr} {n : Int} (h : ¬ (x = .lf ∧ y = .lf)) : n ∈ (Tr.nd x y).exps 0 ↔ n ∈ x.exps 0 ∨ n - x.leaves ∈ y.exps 0 := by
  have hb : (x.isLf && y.isLf) = false := by
    rw [Bool.eq_false_iff]
    exact fun e => h (both_lf e)
  rw [Tr.exps, hb]
  simp only [Bool.false_eq_true, if_false, List.nil_append, List.mem_append, Int.zero_add]
  rw [exps_shift_mem y]
theorem exps_ne {x : Tr} {n : Int} (h : n ∈ x.exps 0) : x ≠ .lf := by
  intro e
  rw [e] at h
  simp [Tr.exps] at h
theorem mem_left {x y : Tr} {n : Int} (h : n ∈ x.exps 0) : n ∈ (Tr.nd x y).exps 0 := (mem_nd (fun e => exps_ne h e.1)).2 (.inl h)
theorem mem_right {x y : Tr} {n : Int} (h : n - x.leaves ∈ y.exps 0) : n ∈ (Tr.nd x y).exps 0 := (mem_nd (fun e => exps_ne h e.2)).2 (.inr h)
theorem drop_left {x y : Tr} {n : Int} (h : n ∈ x.exps 0) : (Tr.nd x y).dropAt n = .nd (x.dropAt n) y := by
  have hb : (x.isLf && y.isLf) = false := by
    rw [Bool.eq_false_iff]
    exact fun e => exps_ne h (both_lf e).1
  have := exps_range x 0 n h
  rw [Tr.dropAt, hb, if_neg (by simp), if_pos (by omega)]
theorem drop_right {x y : Tr} {n : Int} (h : n - x.leaves ∈ y.exps 0) : (Tr.nd x y).dropAt n = .nd x (y.dropAt (n - x.leaves)) := by
  have hb : (x.isLf && y.isLf) = false := by
    rw [Bool.eq_false_iff]
    exact fun e => exps_ne h (both_lf e).2
  have := exps_range y 0 _ h
  rw [Tr.dropAt, hb, if_neg (by simp), if_neg (by omega)]
theorem mem_cases {x y : Tr} {n : Int} (h : n ∈ (Tr.nd x y).exps 0) : (x = .lf ∧ y = .lf ∧ n = 0) ∨ n ∈ x.exps 0 ∨ n - x.leaves ∈ y.exps 0 := by
  by_cases e : x = .lf ∧ y = .lf
  · obtain ⟨rfl, rfl⟩ := e
    simp [Tr.exps, Tr.isLf] at h
    exact .inl ⟨rfl, rfl, h⟩
  · exact .inr ((mem_nd e).1 h)
theorem drop_leaves {t : Tr} {n : Int} (h : n ∈ t.exps 0) : ((t.dropAt n).leaves : Int) = t.leaves - 1 := by
  have := dropAt_carets t n h
  unfold Tr.leaves
  omega

/-- Two exposed carets are dropped in either order. -/
theorem drop_two (t : Tr) : ∀ n m : Int, n ∈ t.exps 0 → m ∈ t.exps 0 → n < m →
    n ∈ (t.dropAt m).exps 0 ∧ m - 1 ∈ (t.dropAt n).exps 0 ∧ (t.dropAt m).dropAt n = (t.dropAt n).dropAt (m - 1) := by
  induction t with
  | lf => intro n m h; simp [Tr.exps] at h
  | nd x y ihx ihy =>
    intro n m hn hm hlt
    rcases mem_cases hn with ⟨rfl, rfl, rfl⟩ | hn | hn
    · rcases mem_cases hm with ⟨_, _, rfl⟩ | hm | hm
      · omega
      · simp [Tr.exps] at hm
      · simp [Tr.exps] at hm
    · rcases mem_cases hm with ⟨rfl, _, _⟩ | hm | hm
      · exact absurd rfl (exps_ne hn)
      · obtain ⟨h1, h2, h3⟩ := ihx n m hn hm hlt
        rw [drop_left hm, drop_left hn, drop_left h1, drop_left h2, h3]
        exact ⟨mem_left h1, mem_left h2, rfl⟩
      · have hl := drop_leaves hn
        have hr : m - 1 - ((x.dropAt n).leaves : Int) = m - x.leaves := by omega
        rw [drop_right hm, drop_left hn, drop_left hn, drop_right (by rw [hr]; exact hm), hr]
        exact ⟨mem_left hn, mem_right (by rw [hr]; exact hm), rfl⟩
    · rcases mem_cases hm with ⟨_, rfl, _⟩ | hm | hm
      · exact absurd rfl (exps_ne hn)
      · have h1 := exps_range x 0 m hm
        have h2 := exps_range y 0 _ hn
        omega
      · obtain ⟨h1, h2, h3⟩ := ihy _ _ hn hm (by omega)
        have e : m - 1 - (x.leaves : Int) = m - x.leaves - 1 := by omega
        rw [drop_right hm, drop_right hn, drop_right h1, drop_right (by rw [e]; exact h2), e, h3]
        exact ⟨mem_right h1, mem_right (by rw [e]; exact h2), rfl⟩

theorem both_two {p : Pr} {n m : Int} (hn : n ∈ both p) (hm : m ∈ both p) (h : n < m) :
    n ∈ both (dropP p m) ∧ m - 1 ∈ both (dropP p n) ∧ dropP (dropP p m) n = dropP (dropP p n) (m - 1) := by
  rw [mem_both] at hn hm
  obtain ⟨a1, a2, a3⟩ := drop_two p.1 n m hn.1 hm.1 h
  obtain ⟨b1, b2, b3⟩ := drop_two p.2 n m hn.2 hm.2 h
  exact ⟨mem_both.2 ⟨a1, b1⟩, mem_both.2 ⟨a2, b2⟩, by unfold dropP; dsimp only; rw [a3, b3]⟩

/-- Whatever is dropped first, the same reduced pair is left. -/
theorem red_drop : ∀ (k : Nat) (p : Pr), p.1.carets = k → ∀ n, n ∈ both p → red (dropP p n) = red p := by
  intro k
  induction k using Nat.strongRecOn with
  | _ k ih =>
    intro p hk n hn
    have hl : 0 < (both p).length := List.length_pos_of_mem hn
    have h0 := red_first0 hl
    have hm : (both p).getD 0 0 ∈ both p := by
      cases hb : both p with
      | nil => rw [hb] at hl; simp at hl
      | cons a l => simp
    generalize (both p).getD 0 0 = m at h0 hm
    rw [h0]
    have c1 := dropP_carets hn
    have c2 := dropP_carets hm
    rcases Int.lt_trichotomy n m with h | h | h
    · obtain ⟨h1, h2, h3⟩ := both_two hn hm h
      rw [← ih (dropP p m).1.carets (by omega) _ rfl n h1, ← ih (dropP p n).1.carets (by omega) _ rfl (m - 1) h2, h3]
    · rw [h]
    · obtain ⟨h1, h2, h3⟩ := both_two hm hn h
      rw [← ih (dropP p n).1.carets (by omega) _ rfl m h1, ← ih (dropP p m).1.carets (by omega) _ rfl (n - 1) h2, h3]

theorem fillR_app (t : Tr) : ∀ us vs : List Tr, us.length = t.leaves → t.fillR (us ++ vs) = (t.fill us, vs) := by
  induction t with
  | lf =>
    intro us vs h
    match us, h with
    | [u], _ => rfl
    | [], h => simp [Tr.leaves] at h
    | _ :: _ :: _, h => simp [Tr.leaves, Tr.carets] at h
  | nd l r ihl ihr =>
    intro us vs h
    rw [leaves_nd] at h
    have hA : (us.take l.leaves).length = l.leaves := by rw [List.length_take]; omega
    have hB : (us.drop l.leaves).length = r.leaves := by rw [List.length_drop]; omega
    have e := List.take_append_drop l.leaves us
    generalize us.take l.leaves = A at *
    generalize us.drop l.leaves = B at *
    subst e
    have h1 := ihl A (B ++ vs) hA
    have h2 := ihr B vs hB
    have h3 := ihl A B hA
    have h4 := ihr B [] hB
    rw [List.append_nil] at h4
    have e : Tr.fill (.nd l r) (A ++ B) = .nd (l.fill A) (r.fill B) := by
      show Tr.nd (l.fillR (A ++ B)).1 (r.fillR (l.fillR (A ++ B)).2).1 = _
      rw [h3, h4]
    rw [e, Tr.fillR, List.append_assoc, h1, h2]
theorem fill_nd {l r : Tr} {A B : List Tr} (hA : A.length = l.leaves) (hB : B.length = r.leaves) : Tr.fill (.nd l r) (A ++ B) = .nd (l.fill A) (r.fill B) := by
  have h3 := fillR_app l A B hA
  have h4 := fillR_app r B [] hB
  rw [List.append_nil] at h4
  show Tr.nd (l.fillR (A ++ B)).1 (r.fillR (l.fillR (A ++ B)).2).1 = _
  rw [h3, h4]
theorem fill_lf (u : Tr) : Tr.fill .lf [u] = u := rfl
/-- Leaves of a list of trees. -/
def sumL (us : List Tr) : Nat := (us.map Tr.leaves).sum
theorem sumL_cons (u : Tr) (us : List Tr) : sumL (u :: us) = u.leaves + sumL us := by simp [sumL]
theorem sumL_append (us vs : List Tr) : sumL (us ++ vs) = sumL us + sumL vs := by simp [sumL]
theorem sumL_eq (us : List Tr) : sumL us = sumC us + us.length := by
  induction us with
  | nil => rfl
  | cons u us ih => rw [sumL_cons, sumC_cons, ih, List.length_cons]; unfold Tr.leaves; omega
theorem fill_leaves {t : Tr} {us : List Tr} (h : us.length = t.leaves) : (t.fill us).leaves = sumL us := by
  rw [sumL_eq, h]
  unfold Tr.leaves
  rw [fill_carets t us h]
  omega
/-- The list of a caret's leaves, parted. -/
theorem partsT {l r : Tr} {us : List Tr} (h : us.length = (Tr.nd l r).leaves) : ∃ A B, us = A ++ B ∧ A.length = l.leaves ∧ B.length = r.leaves := by
  rw [leaves_nd] at h
  exact ⟨us.take l.leaves, us.drop l.leaves, (List.take_append_drop _ _).symm, by rw [List.length_take]; omega, by rw [List.length_drop]; omega⟩

/-- An exposed caret that was filled in. -/
theorem fill_drop (t : Tr) : ∀ (ps : List Tr) (u : Tr) (bs : List Tr) (m : Int), (ps ++ u :: bs).length = t.leaves → m ∈ u.exps 0 →
    ((sumL ps : Int) + m) ∈ (t.fill (ps ++ u :: bs)).exps 0 ∧ (t.fill (ps ++ u :: bs)).dropAt ((sumL ps : Int) + m) = t.fill (ps ++ u.dropAt m :: bs) := by
  induction t with
  | lf =>
    intro ps u bs m h hm
    match ps, bs, h with
    | [], [], _ =>
      have e : ((sumL [] : Nat) : Int) + m = m := by simp [sumL]
      rw [e]
      exact ⟨hm, rfl⟩
    | [], _ :: _, h => simp [Tr.leaves, Tr.carets] at h
    | _ :: _, _, h => simp [Tr.leaves, Tr.carets] at h
  | nd l r ihl ihr =>
    intro ps u bs m h hm
    rw [leaves_nd, List.length_append, List.length_cons] at h
    by_cases hlt : ps.length < l.leaves
    · have hb1 : (bs.take (l.leaves - ps.length - 1)).length = l.leaves - ps.length - 1 := by rw [List.length_take]; omega
      have hb2 : (bs.drop (l.leaves - ps.length - 1)).length = r.leaves := by rw [List.length_drop]; omega
      have e := List.take_append_drop (l.leaves - ps.length - 1) bs
      generalize bs.take (l.leaves - ps.length - 1) = b1 at *
      generalize bs.drop (l.leaves - ps.length - 1) = b2 at *
      subst e
      have hA : ∀ v : Tr, (ps ++ v :: b1).length = l.leaves := by intro v; rw [List.length_append, List.length_cons]; omega
      have ee : ∀ v : Tr, ps ++ v :: (b1 ++ b2) = (ps ++ v :: b1) ++ b2 := by intro v; simp
      obtain ⟨h1, h2⟩ := ihl ps u b1 m (hA u) hm
      rw [ee, ee, fill_nd (hA _) hb2, fill_nd (hA _) hb2, drop_left h1, h2]
      exact ⟨mem_left h1, rfl⟩
    · have ha1 : (ps.take l.leaves).length = l.leaves := by rw [List.length_take]; omega
      have ha2 : (ps.drop l.leaves).length + l.leaves = ps.length := by rw [List.length_drop]; omega
      have e := List.take_append_drop l.leaves ps
      generalize ps.take l.leaves = a1 at *
      generalize ps.drop l.leaves = a2 at *
      subst e
      have hB : ∀ v : Tr, (a2 ++ v :: bs).length = r.leaves := by intro v; rw [List.length_append, List.length_cons]; omega
      have ee : ∀ v : Tr, a1 ++ a2 ++ v :: bs = a1 ++ (a2 ++ v :: bs) := by intro v; simp
      obtain ⟨h1, h2⟩ := ihr a2 u bs m (hB u) hm
      have hl := fill_leaves ha1
      have es : ((sumL (a1 ++ a2) : Nat) : Int) + m - ((l.fill a1).leaves : Int) = (sumL a2 : Int) + m := by rw [sumL_append, hl]; omega
      rw [ee, ee, fill_nd ha1 (hB _), fill_nd ha1 (hB _), drop_right (by rw [es]; exact h1), es, h2]
      exact ⟨mem_right (by rw [es]; exact h1), rfl⟩

theorem ex_exps (t : Tr) : 0 < t.carets → ∃ m, m ∈ t.exps 0 := by
  induction t with
  | lf => intro h; simp [Tr.carets] at h
  | nd x y ihx ihy =>
    intro _
    by_cases hx : 0 < x.carets
    · obtain ⟨m, hm⟩ := ihx hx
      exact ⟨m, mem_left hm⟩
    · by_cases hy : 0 < y.carets
      · obtain ⟨m, hm⟩ := ihy hy
        exact ⟨m + x.leaves, mem_right (by rw [show m + (x.leaves : Int) - x.leaves = m by omega]; exact hm)⟩
      · have e1 : x = .lf := by cases x with
          | lf => rfl
          | nd _ _ => simp [Tr.carets] at hx
        have e2 : y = .lf := by cases y with
          | lf => rfl
          | nd _ _ => simp [Tr.carets] at hy
        subst e1; subst e2
        exact ⟨0, by simp [Tr.exps, Tr.isLf]⟩
theorem fill_lfs (t : Tr) : t.fill (List.replicate t.leaves .lf) = t := by
  induction t with
  | lf => rfl
  | nd l r ihl ihr => rw [leaves_nd, ← List.replicate_append_replicate, fill_nd (by simp) (by simp), ihl, ihr]
theorem all_lf (us : List Tr) (h : sumC us = 0) : us = List.replicate us.length .lf := by
  induction us with
  | nil => rfl
  | cons u us ih =>
    rw [sumC_cons] at h
    rw [List.length_cons, List.replicate_succ, ← ih (by omega)]
    cases u with
    | lf => rfl
    | nd _ _ => simp [Tr.carets] at h
theorem ex_caret (us : List Tr) : 0 < sumC us → ∃ ps u bs, us = ps ++ u :: bs ∧ 0 < u.carets := by
  induction us with
  | nil => intro h; simp [sumC] at h
  | cons u us ih =>
    intro h
    by_cases hu : 0 < u.carets
    · exact ⟨[], u, us, rfl, hu⟩
    · rw [sumC_cons] at h
      obtain ⟨ps, v, bs, rfl, hv⟩ := ih (by omega)
      exact ⟨u :: ps, v, bs, rfl, hv⟩
/-- A pair with trees at its leaves. -/
def expE (p : Pr) (us : List Tr) : Pr := (p.1.fill us, p.2.fill us)
theorem red_expE {p : Pr} (hp : okP p) : ∀ (k : Nat) (us : List Tr), sumC us = k → us.length = p.1.leaves → red (expE p us) = red p := by
  have hq : p.1.leaves = p.2.leaves := by unfold okP at hp; unfold Tr.leaves; omega
  intro k
  induction k with
  | zero =>
    intro us h hl
    have e := all_lf us h
    rw [hl] at e
    have : expE p us = p := by
      unfold expE
      rw [e, fill_lfs, hq, fill_lfs]
    rw [this]
  | succ k ih =>
    intro us h hl
    obtain ⟨ps, u, bs, rfl, hu⟩ := ex_caret us (by omega)
    obtain ⟨m, hm⟩ := ex_exps u hu
    obtain ⟨a1, a2⟩ := fill_drop p.1 ps u bs m hl hm
    obtain ⟨b1, b2⟩ := fill_drop p.2 ps u bs m (by omega) hm
    have hb : ((sumL ps : Int) + m) ∈ both (expE p (ps ++ u :: bs)) := mem_both.2 ⟨a1, b1⟩
    have hd : dropP (expE p (ps ++ u :: bs)) ((sumL ps : Int) + m) = expE p (ps ++ u.dropAt m :: bs) := by
      unfold dropP expE
      dsimp only
      rw [a2, b2]
    have hc := dropAt_carets u m hm
    rw [← red_drop _ _ rfl _ hb, hd]
    refine ih _ ?_ ?_
    · rw [sumC_append, sumC_cons] at h ⊢; omega
    · rw [← hl]; simp

/-- Trees with trees at their leaves. -/
def compT : List Tr → List Tr → List Tr
  | [], _ => []
  | u :: us, vs => u.fill (vs.take u.leaves) :: compT us (vs.drop u.leaves)
theorem compT_length (us : List Tr) : ∀ vs, (compT us vs).length = us.length := by
  induction us with
  | nil => intro vs; rfl
  | cons u us ih => intro vs; simp [compT, ih]
theorem compT_append (A : List Tr) : ∀ (B V W : List Tr), V.length = sumL A → compT (A ++ B) (V ++ W) = compT A V ++ compT B W := by
  induction A with
  | nil => intro B V W h; obtain rfl : V = [] := List.length_eq_zero_iff.1 (by simpa [sumL] using h); rfl
  | cons u A ih =>
    intro B V W h
    rw [sumL_cons] at h
    rw [List.cons_append, compT, compT, List.take_append_of_le_length (by omega), List.drop_append_of_le_length (by omega), ih _ _ _ (by rw [List.length_drop]; omega)]
    rfl
theorem fill_comp (t : Tr) : ∀ us vs : List Tr, us.length = t.leaves → vs.length = sumL us → t.fill (compT us vs) = (t.fill us).fill vs := by
  induction t with
  | lf =>
    intro us vs h hv
    match us, h with
    | [u], _ =>
      simp [sumL] at hv
      show Tr.fill .lf [u.fill (vs.take u.leaves)] = u.fill vs
      rw [fill_lf, List.take_of_length_le (by omega)]
    | [], h => simp [Tr.leaves] at h
    | _ :: _ :: _, h => simp [Tr.leaves, Tr.carets] at h
  | nd l r ihl ihr =>
    intro us vs h hv
    obtain ⟨A, B, rfl, hA, hB⟩ := partsT h
    rw [sumL_append] at hv
    have hV : (vs.take (sumL A)).length = sumL A := by rw [List.length_take]; omega
    have hW : (vs.drop (sumL A)).length = sumL B := by rw [List.length_drop]; omega
    have e := List.take_append_drop (sumL A) vs
    generalize vs.take (sumL A) = V at *
    generalize vs.drop (sumL A) = W at *
    subst e
    rw [compT_append _ _ _ _ hV, fill_nd (by rw [compT_length, hA]) (by rw [compT_length, hB]), fill_nd hA hB, fill_nd (by rw [hV, fill_leaves hA]) (by rw [hW, fill_leaves hB]), ihl A V hA hV, ihr B W hB hW]
theorem fill_subs (a : Tr) : ∀ g : Tr, a.part g = true → a.fill (a.subs g) = g := by
  induction a with
  | lf => intro g h; rfl
  | nd l r ihl ihr =>
    intro g h
    cases g with
    | lf => simp [Tr.part] at h
    | nd p q =>
      simp [Tr.part] at h
      rw [Tr.subs, fill_nd (below_carets l p h.1).2 (below_carets r q h.2).2, ihl p h.1, ihr q h.2]
theorem subs_fill (a : Tr) : ∀ us : List Tr, us.length = a.leaves → a.part (a.fill us) = true ∧ a.subs (a.fill us) = us := by
  induction a with
  | lf =>
    intro us h
    match us, h with
    | [u], _ => exact ⟨rfl, rfl⟩
    | [], h => simp [Tr.leaves] at h
    | _ :: _ :: _, h => simp [Tr.leaves, Tr.carets] at h
  | nd l r ihl ihr =>
    intro us h
    obtain ⟨A, B, rfl, hA, hB⟩ := partsT h
    rw [fill_nd hA hB]
    have h1 := ihl A hA
    have h2 := ihr B hB
    exact ⟨by simp [Tr.part, h1.1, h2.1], by rw [Tr.subs, h1.2, h2.2]⟩
theorem join_least (a : Tr) : ∀ b g : Tr, a.part g = true → b.part g = true → (a.join b).part g = true := by
  induction a with
  | lf => intro b g h k; exact k
  | nd l r ihl ihr =>
    intro b g h k
    cases b with
    | lf => exact h
    | nd p q =>
      cases g with
      | lf => simp [Tr.part] at h
      | nd x y =>
        simp [Tr.part] at h k
        simp [Tr.join, Tr.part, ihl p x h.1 k.1, ihr q y h.2 k.2]
theorem okP_leaves {p : Pr} (hp : okP p) : p.1.leaves = p.2.leaves := by unfold okP at hp; unfold Tr.leaves; omega
/-- The product by any tree in the middle. -/
theorem mulP_any {p q : Pr} (hp : okP p) (hq : okP q) {S T : List Tr} (hS : S.length = p.2.leaves) (hT : T.length = q.1.leaves) (h : p.2.fill S = q.1.fill T) :
    red (p.1.fill S, q.2.fill T) = mulP p q := by
  have hJ : (p.2.join q.1).part (p.2.fill S) = true := join_least _ _ _ (subs_fill p.2 S hS).1 (by rw [h]; exact (subs_fill q.1 T hT).1)
  have hU := below_carets _ _ hJ
  have hg := fill_subs _ _ hJ
  generalize (p.2.join q.1).subs (p.2.fill S) = U at hU hg
  have s1 := below_carets p.2 _ (part_join p.2 q.1)
  have s2 := below_carets q.1 _ (part_join' p.2 q.1)
  have f1 := fill_subs p.2 _ (part_join p.2 q.1)
  have f2 := fill_subs q.1 _ (part_join' p.2 q.1)
  have o1 := okP_leaves hp
  have o2 := okP_leaves hq
  have l1 : sumL (p.2.subs (p.2.join q.1)) = (p.2.join q.1).leaves := by rw [← fill_leaves s1.2, f1]
  have l2 : sumL (q.1.subs (p.2.join q.1)) = (p.2.join q.1).leaves := by rw [← fill_leaves s2.2, f2]
  unfold mulP
  have hr : rawP p q = (p.1.fill (p.2.subs (p.2.join q.1)), q.2.fill (q.1.subs (p.2.join q.1))) := rfl
  have c1 : compT (p.2.subs (p.2.join q.1)) U = S := by
    rw [← (subs_fill p.2 S hS).2, ← hg, ← (subs_fill p.2 (compT (p.2.subs (p.2.join q.1)) U) (by rw [compT_length, s1.2])).2, fill_comp _ _ _ s1.2 (by rw [hU.2, l1]), f1]
  have c2 : compT (q.1.subs (p.2.join q.1)) U = T := by
    rw [← (subs_fill q.1 T hT).2, ← h, ← hg, ← (subs_fill q.1 (compT (q.1.subs (p.2.join q.1)) U) (by rw [compT_length, s2.2])).2, fill_comp _ _ _ s2.2 (by rw [hU.2, l2]), f2]
  have e : (p.1.fill S, q.2.fill T) = expE (rawP p q) U := by
    rw [hr, ← c1, ← c2]
    unfold expE
    dsimp only
    rw [fill_comp _ _ _ (by rw [s1.2, o1]) (by rw [hU.2, l1]), fill_comp _ _ _ (by rw [s2.2, o2]) (by rw [hU.2, l2])]
  have hok : okP (rawP p q) := by
    have k1 := fill_leaves (t := p.1) (us := p.2.subs (p.2.join q.1)) (by rw [s1.2, o1])
    have k2 := fill_leaves (t := q.2) (us := q.1.subs (p.2.join q.1)) (by rw [s2.2, o2])
    rw [hr]
    unfold okP
    dsimp only
    rw [l1] at k1
    rw [l2] at k2
    unfold Tr.leaves at k1 k2
    omega
  rw [e]
  refine red_expE hok _ U rfl ?_
  rw [hU.2, hr]
  dsimp only
  rw [fill_leaves (by rw [s1.2, o1]), l1]

theorem expE_ok {p : Pr} (hp : okP p) {V : List Tr} (hV : V.length = p.1.leaves) : okP (expE p V) := by
  have o1 := okP_leaves hp
  have k1 := fill_leaves (t := p.1) (us := V) hV
  have k2 := fill_leaves (t := p.2) (us := V) (by omega)
  unfold okP expE
  dsimp only
  unfold Tr.leaves at k1 k2
  omega
theorem mulP_expL {p q : Pr} (hp : okP p) (hq : okP q) {V : List Tr} (hV : V.length = p.1.leaves) : mulP (expE p V) q = mulP p q := by
  have o1 := okP_leaves hp
  have s1 := below_carets (expE p V).2 _ (part_join (expE p V).2 q.1)
  have s2 := below_carets q.1 _ (part_join' (expE p V).2 q.1)
  have f1 := fill_subs (expE p V).2 _ (part_join (expE p V).2 q.1)
  have f2 := fill_subs q.1 _ (part_join' (expE p V).2 q.1)
  have hl : (expE p V).2.leaves = sumL V := fill_leaves (by omega)
  unfold mulP
  have hr : rawP (expE p V) q = ((expE p V).1.fill ((expE p V).2.subs ((expE p V).2.join q.1)), q.2.fill (q.1.subs ((expE p V).2.join q.1))) := rfl
  generalize (expE p V).2.subs ((expE p V).2.join q.1) = S at *
  generalize q.1.subs ((expE p V).2.join q.1) = T at *
  have e1 : (expE p V).1.fill S = p.1.fill (compT V S) := (fill_comp _ _ _ hV (by rw [s1.2, hl])).symm
  have e2 : (expE p V).2.fill S = p.2.fill (compT V S) := (fill_comp _ _ _ (by omega) (by rw [s1.2, hl])).symm
  rw [hr, e1]
  exact mulP_any hp hq (by rw [compT_length]; omega) s2.2 (by rw [← e2, f1, f2])
theorem mulP_expR {p q : Pr} (hp : okP p) (hq : okP q) {V : List Tr} (hV : V.length = q.1.leaves) : mulP p (expE q V) = mulP p q := by
  have o1 := okP_leaves hq
  have s1 := below_carets p.2 _ (part_join p.2 (expE q V).1)
  have s2 := below_carets (expE q V).1 _ (part_join' p.2 (expE q V).1)
  have f1 := fill_subs p.2 _ (part_join p.2 (expE q V).1)
  have f2 := fill_subs (expE q V).1 _ (part_join' p.2 (expE q V).1)
  have hl : (expE q V).1.leaves = sumL V := fill_leaves hV
  unfold mulP
  have hr : rawP p (expE q V) = (p.1.fill (p.2.subs (p.2.join (expE q V).1)), (expE q V).2.fill ((expE q V).1.subs (p.2.join (expE q V).1))) := rfl
  generalize p.2.subs (p.2.join (expE q V).1) = S at *
  generalize (expE q V).1.subs (p.2.join (expE q V).1) = T at *
  have e1 : (expE q V).1.fill T = q.1.fill (compT V T) := (fill_comp _ _ _ hV (by rw [s2.2, hl])).symm
  have e2 : (expE q V).2.fill T = q.2.fill (compT V T) := (fill_comp _ _ _ (by omega) (by rw [s2.2, hl])).symm
  rw [hr, e2]
  exact mulP_any hp hq s1.2 (by rw [compT_length]; omega) (by rw [← e1, f1, f2])

/-- So many leaves, but for a caret at one of them. -/
def bump (k n : Nat) : List Tr := List.replicate n .lf ++ .nd .lf .lf :: List.replicate (k - n - 1) .lf
theorem bump_length {k n : Nat} (h : n < k) : (bump k n).length = k := by simp [bump]; omega
theorem drop_fill (t : Tr) : ∀ n : Int, n ∈ t.exps 0 → (t.dropAt n).fill (bump (t.dropAt n).leaves n.toNat) = t := by
  induction t with
  | lf => intro n h; simp [Tr.exps] at h
  | nd x y ihx ihy =>
    intro n hn
    have hrg := exps_range _ 0 n hn
    rcases mem_cases hn with ⟨rfl, rfl, rfl⟩ | hn | hn
    · rfl
    · have h1 := exps_range x 0 n hn
      have hl := drop_leaves hn
      rw [drop_left hn]
      have e : bump (Tr.nd (x.dropAt n) y).leaves n.toNat = bump (x.dropAt n).leaves n.toNat ++ List.replicate y.leaves .lf := by
        rw [leaves_nd]
        unfold bump
        rw [List.append_assoc, List.cons_append, List.replicate_append_replicate]
        congr 3
        omega
      rw [e, fill_nd (bump_length (by omega)) (by simp), ihx n hn, fill_lfs]
    · have h1 := exps_range y 0 _ hn
      have hl := drop_leaves hn
      rw [drop_right hn]
      have e : bump (Tr.nd x (y.dropAt (n - x.leaves))).leaves n.toNat = List.replicate x.leaves .lf ++ bump (y.dropAt (n - x.leaves)).leaves (n - x.leaves).toNat := by
        rw [leaves_nd]
        unfold bump
        rw [← List.append_assoc, List.replicate_append_replicate]
        congr 3 <;> omega
      rw [e, fill_nd (by simp) (bump_length (by omega)), ihy _ hn, fill_lfs]
theorem drop_exp {p : Pr} (hp : okP p) {n : Int} (h : n ∈ both p) : okP (dropP p n) ∧ ∃ V, V.length = (dropP p n).1.leaves ∧ expE (dropP p n) V = p := by
  have hc := dropP_carets h
  have ho : okP (dropP p n) := by unfold okP at *; omega
  obtain ⟨h1, h2⟩ := mem_both.1 h
  have r1 := exps_range p.1 0 n h1
  have l1 := drop_leaves h1
  refine ⟨ho, bump (dropP p n).1.leaves n.toNat, bump_length (by show n.toNat < (p.1.dropAt n).leaves; omega), ?_⟩
  unfold expE
  rw [show (dropP p n).1.fill (bump (dropP p n).1.leaves n.toNat) = p.1 from drop_fill p.1 n h1, okP_leaves ho, show (dropP p n).2.fill (bump (dropP p n).2.leaves n.toNat) = p.2 from drop_fill p.2 n h2]
/-- A pair is made by the reduced one with trees at its leaves. -/
theorem red_exp : ∀ (k : Nat) (p : Pr), p.1.carets = k → okP p → okP (red p) ∧ ∃ V, V.length = (red p).1.leaves ∧ expE (red p) V = p := by
  intro k
  induction k using Nat.strongRecOn with
  | _ k ih =>
    intro p hk hp
    by_cases hl : 0 < (both p).length
    · have h0 := red_first0 hl
      have hm : (both p).getD 0 0 ∈ both p := by
        cases hb : both p with
        | nil => rw [hb] at hl; simp at hl
        | cons a l => simp
      generalize (both p).getD 0 0 = m at h0 hm
      have c2 := dropP_carets hm
      obtain ⟨ho, V, hV, hE⟩ := drop_exp hp hm
      obtain ⟨hr, U, hU, hF⟩ := ih (dropP p m).1.carets (by omega) _ rfl ho
      rw [h0]
      have hUl : sumL U = (dropP p m).1.leaves := by rw [← fill_leaves hU]; exact congrArg (fun x : Pr => x.1.leaves) hF
      refine ⟨hr, compT U V, by rw [compT_length, hU], ?_⟩
      have o1 := okP_leaves hr
      have g1 := fill_comp (red (dropP p m)).1 U V hU (by rw [hV, hUl])
      have g2 := fill_comp (red (dropP p m)).2 U V (by omega) (by rw [hV, hUl])
      unfold expE
      rw [g1, g2]
      rw [show (red (dropP p m)).1.fill U = (dropP p m).1 from congrArg Prod.fst hF, show (red (dropP p m)).2.fill U = (dropP p m).2 from congrArg Prod.snd hF]
      exact hE
    · have hb : both p = [] := List.length_eq_zero_iff.1 (by omega)
      have hr := (red_self p).2 hb
      rw [hr]
      have o1 := okP_leaves hp
      refine ⟨hp, List.replicate p.1.leaves .lf, by simp, ?_⟩
      unfold expE
      rw [fill_lfs, o1, fill_lfs]
theorem mulP_redL {p q : Pr} (hp : okP p) (hq : okP q) : mulP (red p) q = mulP p q := by
  obtain ⟨hr, V, hV, hE⟩ := red_exp _ p rfl hp
  have := mulP_expL hr hq hV
  rw [hE] at this
  exact this.symm
theorem mulP_redR {p q : Pr} (hp : okP p) (hq : okP q) : mulP p (red q) = mulP p q := by
  obtain ⟨hr, V, hV, hE⟩ := red_exp _ q rfl hq
  have := mulP_expR hp hr hV
  rw [hE] at this
  exact this.symm
end Go.Proofs.YtlcepokenaiggaaGreatDoor

/-! Cont -/
namespace Go.Proofs.YtlcepokenaiggaaGreatDoor
open Go.RowKit
/-- The index of the first byte c from an index on. -/
def idxC (s : ByteArray) (c : UInt8) : Int := Lib.indexByte s.data.toList c
theorem idxC_neg (l : List UInt8) (c : UInt8) : (Lib.indexByte l c = -1 ∧ ¬ c ∈ l) ∨ (0 ≤ Lib.indexByte l c ∧ c ∈ l) := by
  induction l with
  | nil => exact .inl ⟨rfl, by simp⟩
  | cons a l ih =>
    unfold Lib.indexByte
    by_cases h : (a == c) = true
    · rw [if_pos h]
      have : a = c := by simpa using h
      exact .inr ⟨by omega, by simp [this]⟩
    · rw [if_neg h]
      have hne : a ≠ c := by simpa using h
      rcases ih with ⟨h1, h2⟩ | ⟨h1, h2⟩
      · exact .inl ⟨by rw [h1]; rfl, by simp [h2, Ne.symm hne]⟩
      · right
        have : (Lib.indexByte l c == -1) = false := by rw [beq_eq_false_iff_ne]; omega
        simp only [this]
        exact ⟨by simp; omega, by simp [h2]⟩

set_option maxRecDepth 100000 in
set_option maxHeartbeats 1000000 in
theorem indexByteC_any (s : ByteArray) (c : UInt8) (w : World) :
    Calls Tryz.prog 123 #[.string s, .int .u8 c.toNat] w fun e w' => e = .returned (.int .i64 (idxC s c)) ∧ w = w' := by
  go_enter Tryz.func123, Tryz.ntmps123
  go_wp2
  rw [run_callFunc_extern Tryz.func130 (by kernel_rfl) (by kernel_rfl) (by kernel_rfl) (e := Extern.BytealgIndexByte.indexByte) (by kernel_rfl), Lib.run_indexByteString]
  simp only [Result.andThen]
  rw [Oper.upon_value]
  go_wp2
  go_ret
  refine ⟨ret_int ?_, rfl⟩
  unfold idxC
  simp

set_option maxRecDepth 100000 in
set_option maxHeartbeats 1000000 in
theorem idxA48_any (s : ByteArray) (w : World) :
    Calls Tryz.prog 113 #[.string s, .string ⟨#[48]⟩] w fun e w' => e = .returned (.int .i64 (idxC s 48)) ∧ w = w' := by
  have hI := fun w => indexByteC_any s 48 w
  have gz : ((⟨#[48]⟩ : ByteArray)[0]'(by decide)).toNat = 48 := rfl
  have ez : ((48 : UInt8).toNat : Int) = 48 := rfl
  rw [ez] at hI
  cases hq : ([48] == s.toList) with
  | true =>
    have h0 : idxC s 48 = 0 := by
      unfold idxC
      rw [← Lib.toList_data, ← (beq_iff_eq.1 hq)]
      rfl
    rw [h0]
    clear hI h0 ez
    go_enter Tryz.func113, Tryz.ntmps113
    go_wp2_with fail
    go_ret
    exact ⟨rfl, rfl⟩
  | false =>
    generalize idxC s 48 = z at *
    clear ez
    go_enter Tryz.func113, Tryz.ntmps113
    go_wp2_with fail
    refine (hI _).mono ?_; rintro e w1 ⟨rfl, rfl⟩
    go_wp2_with fail
    go_ret
    exact ⟨rfl, rfl⟩

theorem idxB48_any (s : ByteArray) (w : World) :
    Calls Tryz.prog 95 #[.string s, .string ⟨#[48]⟩] w fun e w' => e = .returned (.int .i64 (idxC s 48)) ∧ w = w' := by
  have hI := fun w => idxA48_any s w
  generalize idxC s 48 = z at *
  go_enter Tryz.func95, Tryz.ntmps95
  go_wp2_with fail
  refine (hI _).mono ?_; rintro e w1 ⟨rfl, rfl⟩
  go_wp2_with fail
  go_ret
  exact ⟨rfl, rfl⟩
theorem cont48_any (s : ByteArray) (w : World) :
    Calls Tryz.prog 116 #[.string s, .string ⟨#[48]⟩] w fun e w' => e = .returned (.bool (decide ((48 : UInt8) ∈ s.data.toList))) ∧ w = w' := by
  have hI := fun w => idxB48_any s w
  have hs := idxC_neg s.data.toList 48
  rw [show Lib.indexByte s.data.toList 48 = idxC s 48 from rfl] at hs
  generalize idxC s 48 = z at *
  rcases hs with ⟨rfl, h⟩ | ⟨h1, h⟩
  · rw [decide_eq_false h]
    clear h
    go_enter Tryz.func116, Tryz.ntmps116
    go_wp2_with fail
    refine (hI _).mono ?_; rintro e w1 ⟨rfl, rfl⟩
    go_wp2_with fail
    go_ret
    exact ⟨rfl, rfl⟩
  · rw [decide_eq_true h]
    clear h
    go_enter Tryz.func116, Tryz.ntmps116
    go_wp2_with fail
    refine (hI _).mono ?_; rintro e w1 ⟨rfl, rfl⟩
    go_wp2_with fail
    go_ret
    exact ⟨rfl, rfl⟩

set_option maxRecDepth 100000 in
set_option maxHeartbeats 1000000 in
theorem idxA49_any (s : ByteArray) (w : World) :
    Calls Tryz.prog 113 #[.string s, .string ⟨#[49]⟩] w fun e w' => e = .returned (.int .i64 (idxC s 49)) ∧ w = w' := by
  have hI := fun w => indexByteC_any s 49 w
  have gz : ((⟨#[49]⟩ : ByteArray)[0]'(by decide)).toNat = 49 := rfl
  have ez : ((49 : UInt8).toNat : Int) = 49 := rfl
  rw [ez] at hI
  cases hq : ([49] == s.toList) with
  | true =>
    have h0 : idxC s 49 = 0 := by
      unfold idxC
      rw [← Lib.toList_data, ← (beq_iff_eq.1 hq)]
      rfl
    rw [h0]
    clear hI h0 ez
    go_enter Tryz.func113, Tryz.ntmps113
    go_wp2_with fail
    go_ret
    exact ⟨rfl, rfl⟩
  | false =>
    generalize idxC s 49 = z at *
    clear ez
    go_enter Tryz.func113, Tryz.ntmps113
    go_wp2_with fail
    refine (hI _).mono ?_; rintro e w1 ⟨rfl, rfl⟩
    go_wp2_with fail
    go_ret
    exact ⟨rfl, rfl⟩

theorem idxB49_any (s : ByteArray) (w : World) :
    Calls Tryz.prog 95 #[.string s, .string ⟨#[49]⟩] w fun e w' => e = .returned (.int .i64 (idxC s 49)) ∧ w = w' := by
  have hI := fun w => idxA49_any s w
  generalize idxC s 49 = z at *
  go_enter Tryz.func95, Tryz.ntmps95
  go_wp2_with fail
  refine (hI _).mono ?_; rintro e w1 ⟨rfl, rfl⟩
  go_wp2_with fail
  go_ret
  exact ⟨rfl, rfl⟩
theorem cont49_any (s : ByteArray) (w : World) :
    Calls Tryz.prog 116 #[.string s, .string ⟨#[49]⟩] w fun e w' => e = .returned (.bool (decide ((49 : UInt8) ∈ s.data.toList))) ∧ w = w' := by
  have hI := fun w => idxB49_any s w
  have hs := idxC_neg s.data.toList 49
  rw [show Lib.indexByte s.data.toList 49 = idxC s 49 from rfl] at hs
  generalize idxC s 49 = z at *
  rcases hs with ⟨rfl, h⟩ | ⟨h1, h⟩
  · rw [decide_eq_false h]
    clear h
    go_enter Tryz.func116, Tryz.ntmps116
    go_wp2_with fail
    refine (hI _).mono ?_; rintro e w1 ⟨rfl, rfl⟩
    go_wp2_with fail
    go_ret
    exact ⟨rfl, rfl⟩
  · rw [decide_eq_true h]
    clear h
    go_enter Tryz.func116, Tryz.ntmps116
    go_wp2_with fail
    refine (hI _).mono ?_; rintro e w1 ⟨rfl, rfl⟩
    go_wp2_with fail
    go_ret
    exact ⟨rfl, rfl⟩


theorem has48_any (s : ByteArray) (w : World) : Calls Tryz.prog 116 #[.string s, .string ⟨#[48]⟩] w fun e w' => e = .returned (.bool (hasB s 48)) ∧ w = w' := by
  have := cont48_any s w
  rw [show decide ((48 : UInt8) ∈ s.data.toList) = hasB s 48 by unfold hasB; simp] at this
  exact this
theorem has49_any (s : ByteArray) (w : World) : Calls Tryz.prog 116 #[.string s, .string ⟨#[49]⟩] w fun e w' => e = .returned (.bool (hasB s 49)) ∧ w = w' := by
  have := cont49_any s w
  rw [show decide ((49 : UInt8) ∈ s.data.toList) = hasB s 49 by unfold hasB; simp] at this
  exact this
end Go.Proofs.YtlcepokenaiggaaGreatDoor

/-! Ln5 -/
namespace Go.Proofs.YtlcepokenaiggaaGreatDoor
open Go.RowKit

theorem info_caret : (Tryz.prog.info? 106).map (fun i => (i.zero, i.size, i.bytes)) = some (some (.agg #[.string ⟨#[]⟩, .bool false]), 2, 24) := by kernel_rfl
theorem newsC (w : World) (cs : Array Value) (e : TypeId) : ∀ (j : Nat) (u : Value), cs.toList[j]? = some u → (w.alloc (.cells cs e)).cell? ((⟨w.heap.size, 0, none⟩ : Addr).add j) = some u := by
  intro j u hj
  have hb : (w.alloc (.cells cs e)).heap[w.heap.size]? = some (.cells cs e (0, 0)) := by show (w.heap.push _)[w.heap.size]? = _; simp
  rw [addr_add]
  simp only [World.cell?, hb]
  simpa using hj
def flatC : List (ByteArray × Bool) → List Value
  | [] => []
  | x :: l => .string x.1 :: .bool x.2 :: flatC l
theorem flatC_length (l : List (ByteArray × Bool)) : (flatC l).length = l.length * 2 := by
  induction l with
  | nil => rfl
  | cons x l ih => simp [flatC, ih]; omega
theorem flatC_append (l m : List (ByteArray × Bool)) : flatC (l ++ m) = flatC l ++ flatC m := by
  induction l with
  | nil => rfl
  | cons x l ih => simp [flatC, ih]
theorem flatC_get (l : List (ByteArray × Bool)) : ∀ k, k < l.length → (flatC l)[k * 2]? = some (.string (l.getD k (⟨#[]⟩, false)).1) ∧ (flatC l)[k * 2 + 1]? = some (.bool (l.getD k (⟨#[]⟩, false)).2) := by
  induction l with
  | nil => intro k hk; simp at hk
  | cons x l ih =>
    intro k hk
    match k with
    | 0 => exact ⟨rfl, rfl⟩
    | k + 1 =>
      have := ih k (by simpa using hk)
      rw [show (k + 1) * 2 = k * 2 + 2 by omega]
      exact this
theorem flatC_one (l : List (ByteArray × Bool)) : ∀ u ∈ flatC l, u.oneCell' = true := by
  induction l with
  | nil => intro u hu; simp [flatC] at hu
  | cons x l ih =>
    intro u hu
    simp only [flatC, List.mem_cons] at hu
    rcases hu with rfl | rfl | hu
    · rfl
    · rfl
    · exact ih u hu
/-- v is a slice of carets that the call has made. -/
def OwnC (base : Nat) (w : World) (v : Value) (xs : List (ByteArray × Bool)) : Prop := w.ownsRow base 106 2 v xs.length (flatC xs)
theorem OwnC.keep {base : Nat} {w w' : World} {v : Value} {xs : List (ByteArray × Bool)} (h : OwnC base w v xs) (hb : Below w.heap.size w w') : OwnC base w' v xs := ownsRow_keep h hb
theorem OwnC.mono {base base' : Nat} {w : World} {v : Value} {xs : List (ByteArray × Bool)} (h : OwnC base w v xs) (hb : base' ≤ base) : OwnC base' w v xs := ownsRow_mono h hb
theorem OwnC.nil (base : Nat) (w : World) : OwnC base w (.slice none 0 0) [] := World.ownsRow_nil _ _ _ _
/-- Carets that can be read from a place in a block on. -/
def AtC (w : World) (g o : Nat) (xs : List (ByteArray × Bool)) : Prop :=
  ∀ k, k < xs.length → w.cell? ⟨g, o + k * 2, none⟩ = some (.string (xs.getD k (⟨#[]⟩, false)).1) ∧ w.cell? ⟨g, o + k * 2 + 1, none⟩ = some (.bool (xs.getD k (⟨#[]⟩, false)).2)
theorem OwnC.cells {base : Nat} {w : World} {v : Value} {xs : List (ByteArray × Bool)} (h : OwnC base w v xs) :
    (v = .slice none 0 0 ∧ xs = []) ∨ ∃ g cap : Nat, v = .slice (some ⟨g, 0, none⟩) xs.length cap ∧ base ≤ g ∧ g < w.heap.size ∧ xs.length ≤ cap ∧ cap ≤ maxLen ∧ AtC w g 0 xs := by
  have h0 := h
  obtain ⟨h1, h2⟩ := h
  rcases h2 with ⟨hv, hn⟩ | ⟨g, cap, cur, hv, hg, hh, r1, r2, r3⟩
  · exact .inl ⟨hv, List.length_eq_zero_iff.1 hn⟩
  · subst hv
    refine .inr ⟨g, cap, rfl, hg, lt_of_block hh, r1, r2, fun k hk => ?_⟩
    have e1 := World.ownsRow.cellAt h0 (k * 2) (by omega)
    have e2 := World.ownsRow.cellAt h0 (k * 2 + 1) (by omega)
    have := flatC_get xs k hk
    rw [Nat.zero_add, e1, e2]
    exact this
theorem AtC.keep {w w' : World} {g o : Nat} {xs : List (ByteArray × Bool)} (h : AtC w g o xs) (hb : Below w.heap.size w w') (hg : g < w.heap.size) : AtC w' g o xs := fun k hk => ⟨(hb.cell (p := ⟨g, _, none⟩) hg).trans (h k hk).1, (hb.cell (p := ⟨g, _, none⟩) hg).trans (h k hk).2⟩
theorem AtC.tail {w : World} {g o : Nat} {xs : List (ByteArray × Bool)} (h : AtC w g o xs) (i : Nat) : AtC w g (o + i * 2) (xs.drop i) := fun k hk => by
  rw [List.length_drop] at hk
  have e : (xs.drop i).getD k (⟨#[]⟩, false) = xs.getD (i + k) (⟨#[]⟩, false) := by simp
  have := h (i + k) (by omega)
  rw [e, show o + i * 2 + k * 2 = o + (i + k) * 2 by omega]
  exact this
def GivesC (xs : List (ByteArray × Bool)) (w : World) (e : Ending) (w' : World) : Prop :=
  ∃ v, OwnC w.heap.size w' v xs ∧ Below w.heap.size w w' ∧ e = .returned v

/-- A slice value of m elements from which the cells ys can be read. -/
def SrcW (w : World) (u : Value) (m : Nat) (ys : List Value) : Prop :=
  (u = .slice none 0 0 ∧ m = 0 ∧ ys = []) ∨ ∃ ad c, u = .slice (some ad) m c ∧ ∀ j x, ys[j]? = some x → w.cell? (ad.add j) = some x
theorem wpList_appSrcW {P : Program} {w : World} {ops : Array Oper} {rest : List Oper} {o : Oper} {a : Act} {Q : Exit → Act → World → Prop} (hgd : o.guard = none) (s x : Operand) (t : TypeId)
    (ho : o.op = .call { callee := .builtin .append, args := #[s, x], argTypes := #[t, t] })
    (base : Nat) (e : TypeId) (i : TypeInfo) (z : Value) (size bytes : Nat) (ht : P.underlying t = some (.slice e)) (hi : P.info? e = some i) (hz : i.zero = some z)
    (hsize : i.size = size) (hby : i.bytes = bytes) (hzs : z.cells.size = size) (hsz : 0 < size)
    (v : Value) (n : Nat) (xs : List Value) (hs : a.eval s = v) (hown : w.ownsRow base e size v n xs)
    (u : Value) (m : Nat) (ys : List Value) (hx : a.eval x = u) (hsrc : SrcW w u m ys) (hl : ys.length = m * size) (h1 : ∀ y ∈ ys, y.oneCell' = true)
    (h63 : n + m ≤ maxLen) (hbytes : (n + m) * bytes ≤ 140737488355328) (hbase : base ≤ w.heap.size)
    (h : ∀ v' w', w'.ownsRow base e size v' (n + m) (xs ++ ys) → Below base w w' → wpList P ops Q rest (a.put o.dst v') w') : wpList P ops Q (o :: rest) a w := by
  rcases hsrc with ⟨rfl, rfl, rfl⟩ | ⟨ad, c, rfl, hc⟩
  · refine wpList_append_own_none hgd s x t ho base e i size ht hi v n xs hs hown hx ?_
    exact h v w (by simpa using hown) (Below.refl _ _)
  · refine wpList_append_own w hgd s x t ho base e i z size bytes ht hi hz hsize hby hzs hsz v n xs hs hown ad m c ys hx hl hc h1 h63 hbytes hbase ?_
    intro v' w' hown' hg hn
    exact h v' w' hown' ((Below.refl base w).grown hg hbase (fun k hk => ownsRow_ge hown k hk))
theorem OwnC.src {base : Nat} {w : World} {v : Value} {xs : List (ByteArray × Bool)} (h : OwnC base w v xs) : SrcW w v xs.length (flatC xs) := by
  have h0 := h
  obtain ⟨h1, h2⟩ := h
  rcases h2 with ⟨hv, hn⟩ | ⟨g, cap, cur, hv, hg, hh, r1, r2, r3⟩
  · have : xs = [] := List.length_eq_zero_iff.1 hn
    subst this
    exact .inl ⟨hv, rfl, rfl⟩
  · subst hv
    refine .inr ⟨_, cap, rfl, fun j x hj => ?_⟩
    have hj' : j < (flatC xs).length := (List.getElem?_eq_some_iff.1 hj).1
    rw [flatC_length] at hj'
    rw [addr_add, World.ownsRow.cellAt h0 j hj', hj]
theorem OwnC.snoc {base : Nat} {w : World} {v : Value} {xs : List (ByteArray × Bool)} {a : ByteArray} {b : Bool} (h : w.ownsRow base 106 2 v (xs.length + 1) (flatC xs ++ [.string a, .bool b])) : OwnC base w v (xs ++ [(a, b)]) := by
  unfold OwnC
  rw [List.length_append, flatC_append]
  exact h
theorem OwnC.app {base : Nat} {w : World} {v : Value} {xs ys : List (ByteArray × Bool)} (h : w.ownsRow base 106 2 v (xs.length + ys.length) (flatC xs ++ flatC ys)) : OwnC base w v (xs ++ ys) := by
  unfold OwnC
  rw [List.length_append, flatC_append]
  exact h

set_option maxRecDepth 100000 in
theorem isOnLeft_any (a : ByteArray) (b : Bool) (w : World) : Calls Tryz.prog 101 #[.agg #[.string a, .bool b]] w (Gives (.bool (!hasB a 49)) w) := by
  have hC := fun w => has49_any a w
  generalize hasB a 49 = z at *
  go_enter Tryz.func101, Tryz.ntmps101
  go_wp2_with fail
  have hb0 : Below w.heap.size w (w.alloc (.cells #[.string a, .bool b] 106 (0, 0))) := nxAlloc (Below.refl _ _) _
  have hx0 := heap_alloc_at w (.cells #[.string a, .bool b] 106 (0, 0))
  generalize (w.alloc (.cells #[.string a, .bool b] 106 (0, 0))) = w0 at *
  obtain ⟨hx0a, hx0b, hx0c⟩ := two_facts hx0
  go_wp2_with fail
  refine (hC _).mono ?_; rintro e w1 ⟨rfl, rfl⟩
  go_wp2_with fail
  go_ret
  exact ⟨rfl, hb0⟩
set_option maxRecDepth 100000 in
theorem isOnNeither_any (a : ByteArray) (b : Bool) (w : World) : Calls Tryz.prog 102 #[.agg #[.string a, .bool b]] w (Gives (.bool (hasB a 48 && hasB a 49)) w) := by
  have hC := fun w => has48_any a w
  have hL := fun w => isOnLeft_any a b w
  generalize hasB a 49 = y at *
  generalize hasB a 48 = x at *
  cases x with
  | false =>
    clear hL
    go_enter Tryz.func102, Tryz.ntmps102
    go_wp2_with fail
    have hb0 : Below w.heap.size w (w.alloc (.cells #[.string a, .bool b] 106 (0, 0))) := nxAlloc (Below.refl _ _) _
    have hx0 := heap_alloc_at w (.cells #[.string a, .bool b] 106 (0, 0))
    generalize (w.alloc (.cells #[.string a, .bool b] 106 (0, 0))) = w0 at *
    obtain ⟨hx0a, hx0b, hx0c⟩ := two_facts hx0
    go_wp2_with fail
    refine (hC _).mono ?_; rintro e w1 ⟨rfl, rfl⟩
    go_wp2_with fail
    go_ret
    exact ⟨rfl, hb0⟩
  | true =>
    go_enter Tryz.func102, Tryz.ntmps102
    go_wp2_with fail
    have hb0 : Below w.heap.size w (w.alloc (.cells #[.string a, .bool b] 106 (0, 0))) := nxAlloc (Below.refl _ _) _
    have hx0 := heap_alloc_at w (.cells #[.string a, .bool b] 106 (0, 0))
    generalize (w.alloc (.cells #[.string a, .bool b] 106 (0, 0))) = w0 at *
    obtain ⟨hx0a, hx0b, hx0c⟩ := two_facts hx0
    go_wp2_with fail
    refine (hC _).mono ?_; rintro e w1 ⟨rfl, rfl⟩
    go_wp2_with fail
    refine (hL _).mono ?_; rintro e w2 ⟨rfl, hb2⟩
    go_wp2_with fail
    go_ret
    exact ⟨by cases y <;> rfl, nx hb0 hb2⟩

set_option maxRecDepth 100000 in
set_option maxHeartbeats 4000000 in
theorem caretsFrom_any (t : Tr) : ∀ (b : Nat) (here : ByteArray) (w : World), NodeAt w t b → t.carets ≤ 60 → here.size + t.carets ≤ 1000 →
    Calls Tryz.prog 74 #[.pointer (some ⟨b, 0, none⟩), .string here] w (GivesC (t.cars here) w) := by
  obtain ⟨i0, hi, hz0, hz1, hz2⟩ := info_parts info_caret
  induction t with
  | lf =>
    intro b here w h ht hh
    have H := Lib.hid h
    clear h
    go_enter Tryz.func74, Tryz.ntmps74
    go_wp2_with fail
    refine (isLeaf_any .lf b _ H.out).mono ?_; rintro e w1 ⟨rfl, rfl⟩
    simp only [Tr.isLf]
    go_wp2_with fail
    go_ret
    exact ⟨_, OwnC.nil _ _, Below.refl _ _, rfl⟩
  | nd l r ihl ihr =>
    intro b here w h ht hh
    have ht' : l.carets + r.carets + 1 ≤ 60 := ht
    have hh' : here.size + (l.carets + r.carets + 1) ≤ 1000 := hh
    have ll := cars_length l (here ++ ⟨#[48]⟩)
    have lr := cars_length r (here ++ ⟨#[49]⟩)
    obtain ⟨A, hA⟩ : ∃ A, A = l.cars (here ++ ⟨#[48]⟩) := ⟨_, rfl⟩
    obtain ⟨B, hB⟩ : ∃ B, B = r.cars (here ++ ⟨#[49]⟩) := ⟨_, rfl⟩
    have hC : (Tr.nd l r).cars here = (A ++ [(here, r.isLf)]) ++ B := by rw [hA, hB]; simp [Tr.cars]
    have s0 : (here ++ (⟨#[48]⟩ : ByteArray)).size = here.size + 1 := ByteArray.size_append
    have s1 : (here ++ (⟨#[49]⟩ : ByteArray)).size = here.size + 1 := ByteArray.size_append
    have jl := fun b w h => ihl b (here ++ ⟨#[48]⟩) w h (by omega) (by omega)
    have jr := fun b w h => ihr b (here ++ ⟨#[49]⟩) w h (by omega) (by omega)
    have jf := fun b w h => isLeaf_any r b w h
    rw [← hA] at ll jl
    rw [← hB] at lr jr
    rw [hC]
    have hAn : A.length ≤ 60 := by omega
    have hBn : B.length ≤ 60 := by omega
    have H := Lib.hid h
    obtain ⟨bl, br, h, hl, hr⟩ := h
    have h1 := two_left h
    have h2 := two_right h
    have hz3 : (9223372036854775807 < here.size + 1) = False := eq_false (by omega)
    have hz4 : ¬ (9223372036854775807 < here.size + 1) := by omega
    clear h ihl ihr hA hB hC s0 s1 ll lr
    go_enter Tryz.func74, Tryz.ntmps74
    go_wp2_with fail
    refine (isLeaf_any (.nd l r) b _ H.out).mono ?_; rintro e w1 ⟨rfl, rfl⟩
    simp only [Tr.isLf]
    go_wp2_with fail
    have hz := Below.refl w.heap.size w
    generalize r.isLf = q at *
    refine wp_region_held_drew (S := (fun (w' : World) => w'.cell? ⟨b, 0, none⟩ = some (.pointer (some ⟨bl, 0, none⟩)) ∧ w'.cell? ⟨b, 1, none⟩ = some (.pointer (some ⟨br, 0, none⟩)))) (by kernel_rfl) ⟨h1, h2⟩ (fun hH0 => ?_)
    refine wpAnyH_take (i := 0) (oi := ?oi201) (v := ?vv201) ?hi201 ?hn201 ?hf201 ?hr201 ?hq201 (Or.inl ⟨?hg201, ?hy201⟩) hH0 ?rest201
    case hi201 => (simp only [List.getElem?_toArray, List.getElem?_cons_zero]; rfl)
    case hn201 => kernel_rfl
    case hf201 => kernel_rfl
    case hr201 => kernel_rfl
    case hg201 => rfl
    case hy201 => (intro w hSw; (try dsimp only at hSw); go_simp; first | done | with_reducible rfl)
    case hq201 => exact fun _ _ _ h => h
    try dsimp only [Act.put]
    refine wpAnyH_take (i := 1) (oi := ?oi202) (v := ?vv202) ?hi202 ?hn202 ?hf202 ?hr202 ?hq202 (Or.inl ⟨?hg202, ?hy202⟩) hH0 ?rest202
    case hi202 => (simp only [List.getElem?_toArray, List.getElem?_cons_succ, List.getElem?_cons_zero]; rfl)
    case hn202 => kernel_rfl
    case hf202 => kernel_rfl
    case hr202 => kernel_rfl
    case hg202 => rfl
    case hy202 => (intro w hSw; (try dsimp only at hSw); go_simp; first | done | with_reducible rfl)
    case hq202 => exact fun _ _ _ h => h
    try dsimp only [Act.put]
    refine wpAnyH_take (i := 2) (oi := ?oi203) (v := ?vv203) ?hi203 ?hn203 ?hf203 ?hr203 ?hq203 (Or.inl ⟨?hg203, ?hy203⟩) hH0 ?rest203
    case hi203 => (simp only [List.getElem?_toArray, List.getElem?_cons_succ, List.getElem?_cons_zero]; rfl)
    case hn203 => kernel_rfl
    case hf203 => kernel_rfl
    case hr203 => kernel_rfl
    case hg203 => rfl
    case hy203 => (intro w hSw; (try dsimp only at hSw); go_simp; first | done | with_reducible rfl)
    case hq203 => exact fun _ _ _ h => h
    try dsimp only [Act.put]
    refine wpAnyH_take (i := 3) (oi := ?oi204) (v := ?vv204) ?hi204 ?hn204 ?hf204 ?hr204 ?hq204 (Or.inl ⟨?hg204, ?hy204⟩) hH0 ?rest204
    case hi204 => (simp only [List.getElem?_toArray, List.getElem?_cons_succ, List.getElem?_cons_zero]; rfl)
    case hn204 => kernel_rfl
    case hf204 => kernel_rfl
    case hr204 => kernel_rfl
    case hg204 => rfl
    case hy204 => (intro w hSw; (try dsimp only at hSw); go_simp; first | done | with_reducible rfl)
    case hq204 => exact fun _ _ _ h => h
    try dsimp only [Act.put]
    refine wpAnyH_take (i := 4) (oi := ?oi205) (v := ?vv205) ?hi205 ?hn205 ?hf205 ?hr205 ?hq205 (Or.inl ⟨?hg205, ?hy205⟩) hH0 ?rest205
    case hi205 => (simp only [List.getElem?_toArray, List.getElem?_cons_succ, List.getElem?_cons_zero]; rfl)
    case hn205 => kernel_rfl
    case hf205 => kernel_rfl
    case hr205 => kernel_rfl
    case hg205 => rfl
    case hy205 => (intro w hSw; (try dsimp only at hSw); go_simp; first | done | with_reducible rfl)
    case hq205 => exact fun _ _ _ h => h
    try dsimp only [Act.put]
    refine wpAnyH_take (i := 5) (oi := ?oi206) (v := ?vv206) ?hi206 ?hn206 ?hf206 ?hr206 ?hq206 (Or.inl ⟨?hg206, ?hy206⟩) hH0 ?rest206
    case hi206 => (simp only [List.getElem?_toArray, List.getElem?_cons_succ, List.getElem?_cons_zero]; rfl)
    case hn206 => kernel_rfl
    case hf206 => kernel_rfl
    case hr206 => kernel_rfl
    case hg206 => rfl
    case hy206 => (intro w hSw; (try dsimp only at hSw); go_simp; first | done | with_reducible rfl)
    case hq206 => exact fun _ _ _ h => h
    try dsimp only [Act.put]
    refine wpAnyH_take (i := 7) (oi := ?oi207) (v := ?vv207) ?hi207 ?hn207 ?hf207 ?hr207 ?hq207 (Or.inl ⟨?hg207, ?hy207⟩) hH0 ?rest207
    case hi207 => (simp only [List.getElem?_toArray, List.getElem?_cons_succ, List.getElem?_cons_zero]; rfl)
    case hn207 => kernel_rfl
    case hf207 => kernel_rfl
    case hr207 => kernel_rfl
    case hg207 => rfl
    case hy207 => (intro w hSw; (try dsimp only at hSw); go_simp; first | done | with_reducible rfl)
    case hq207 => exact fun _ _ _ h => h
    try dsimp only [Act.put]
    refine wpAnyH_take (i := 8) (oi := ?oi208) (v := ?vv208) ?hi208 ?hn208 ?hf208 ?hr208 ?hq208 (Or.inl ⟨?hg208, ?hy208⟩) hH0 ?rest208
    case hi208 => (simp only [List.getElem?_toArray, List.getElem?_cons_succ, List.getElem?_cons_zero]; rfl)
    case hn208 => kernel_rfl
    case hf208 => kernel_rfl
    case hr208 => kernel_rfl
    case hg208 => rfl
    case hy208 => (intro w hSw; (try dsimp only at hSw); go_simp; first | done | with_reducible rfl)
    case hq208 => exact fun _ _ _ h => h
    try dsimp only [Act.put]
    refine wpAnyH_take (i := 9) (oi := ?oi209) (v := ?vv209) ?hi209 ?hn209 ?hf209 ?hr209 ?hq209 (Or.inl ⟨?hg209, ?hy209⟩) hH0 ?rest209
    case hi209 => (simp only [List.getElem?_toArray, List.getElem?_cons_succ, List.getElem?_cons_zero]; rfl)
    case hn209 => kernel_rfl
    case hf209 => kernel_rfl
    case hr209 => kernel_rfl
    case hg209 => rfl
    case hy209 => (intro w hSw; (try dsimp only at hSw); go_simp; first | done | with_reducible rfl)
    case hq209 => exact fun _ _ _ h => h
    try dsimp only [Act.put]
    refine wpAnyH_take (i := 10) (oi := ?oi210) (v := ?vv210) ?hi210 ?hn210 ?hf210 ?hr210 ?hq210 (Or.inl ⟨?hg210, ?hy210⟩) hH0 ?rest210
    case hi210 => (simp only [List.getElem?_toArray, List.getElem?_cons_succ, List.getElem?_cons_zero]; rfl)
    case hn210 => kernel_rfl
    case hf210 => kernel_rfl
    case hr210 => kernel_rfl
    case hg210 => rfl
    case hy210 => (intro w hSw; (try dsimp only at hSw); go_simp; first | done | with_reducible rfl)
    case hq210 => exact fun _ _ _ h => h
    try dsimp only [Act.put]
    refine wpAnyH_take (i := 11) (oi := ?oi211) (v := ?vv211) ?hi211 ?hn211 ?hf211 ?hr211 ?hq211 (Or.inl ⟨?hg211, ?hy211⟩) hH0 ?rest211
    case hi211 => (simp only [List.getElem?_toArray, List.getElem?_cons_succ, List.getElem?_cons_zero]; rfl)
    case hn211 => kernel_rfl
    case hf211 => kernel_rfl
    case hr211 => kernel_rfl
    case hg211 => rfl
    case hy211 => (intro w hSw; (try dsimp only at hSw); go_simp; first | done | with_reducible rfl)
    case hq211 => exact fun _ _ _ h => h
    try dsimp only [Act.put]
    refine held_one 6 rfl (by kernel_rfl) (fun K hK => ?_)
    go_simp
    refine (jl bl _ (hl.keep hz.drew)).mono ?_; rintro e w3 ⟨v3, own3, hb3, rfl⟩
    have hb3' := nx hz.drew hb3
    go_wp2_with fail
    have hH1 : (fun (w' : World) => w'.cell? ⟨b, 0, none⟩ = some (.pointer (some ⟨bl, 0, none⟩)) ∧ w'.cell? ⟨b, 1, none⟩ = some (.pointer (some ⟨br, 0, none⟩))) _ := ⟨keep_cell hb3' h1, keep_cell hb3' h2⟩
    refine hK.out (fun (w' : World) => w'.cell? ⟨b, 0, none⟩ = some (.pointer (some ⟨bl, 0, none⟩)) ∧ w'.cell? ⟨b, 1, none⟩ = some (.pointer (some ⟨br, 0, none⟩))) _ _ (fun _ h => h) hH1 ?_
    clear hK K
    try dsimp only [Act.put]
    refine held_one 12 rfl (by kernel_rfl) (fun K hK => ?_)
    go_simp
    refine (jf br _ (hr.keep hb3')).mono ?_; rintro e w4 ⟨rfl, rfl⟩
    go_wp2_with fail
    have hH2 : (fun (w' : World) => w'.cell? ⟨b, 0, none⟩ = some (.pointer (some ⟨bl, 0, none⟩)) ∧ w'.cell? ⟨b, 1, none⟩ = some (.pointer (some ⟨br, 0, none⟩))) _ := ⟨keep_cell hb3' h1, keep_cell hb3' h2⟩
    refine hK.out (fun (w' : World) => w'.cell? ⟨b, 0, none⟩ = some (.pointer (some ⟨bl, 0, none⟩)) ∧ w'.cell? ⟨b, 1, none⟩ = some (.pointer (some ⟨br, 0, none⟩))) _ _ (fun _ h => h) hH2 ?_
    clear hK K
    try dsimp only [Act.put]
    refine wpAnyH_take (i := 13) (oi := ?oi212) (v := ?vv212) ?hi212 ?hn212 ?hf212 ?hr212 ?hq212 (Or.inl ⟨?hg212, ?hy212⟩) hH2 ?rest212
    case hi212 => (simp only [List.getElem?_toArray, List.getElem?_cons_succ, List.getElem?_cons_zero]; rfl)
    case hn212 => kernel_rfl
    case hf212 => kernel_rfl
    case hr212 => kernel_rfl
    case hg212 => rfl
    case hy212 => (intro w hSw; (try dsimp only at hSw); go_simp; first | done | with_reducible rfl)
    case hq212 => exact fun _ _ _ h => h
    try dsimp only [Act.put]
    have hbn := nxAlloc hb3' (.cells #[.string here, .bool q] 106 (0, 0))
    have hsn := hb3'.size
    refine held_one 14 rfl (by kernel_rfl) (fun K hK => ?_)
    go_simp
    refine hK.out (fun (w' : World) => w'.cell? ⟨b, 0, none⟩ = some (.pointer (some ⟨bl, 0, none⟩)) ∧ w'.cell? ⟨b, 1, none⟩ = some (.pointer (some ⟨br, 0, none⟩))) _ _ (fun _ h => h) ⟨keep_cell hbn h1, keep_cell hbn h2⟩ ?_
    clear hK K
    try dsimp only [Act.put]
    refine held_one 15 rfl (by kernel_rfl) (fun K hK => ?_)
    refine step_append_lies _ rfl _ _ 83 rfl w.heap.size 106 i0 (.agg #[.string ⟨#[]⟩, .bool false]) 2 24 Tryz.underlying83 hi hz0 hz1 hz2 rfl (by decide) _ _ _ rfl ((own3.mono (by simp)).alloc _) ⟨w3.heap.size, 0, none⟩ 1 1 [.string here, .bool q] rfl rfl (newsC _ #[.string here, .bool q] _) (flatC_one [(here, q)]) (by decide) (by unfold maxLen; omega) (by omega) (by simp; omega) _ rfl ?_
    intro g9 cap9 w9 hown9 hgrow hnb hlt9
    have hbw9 := hbn.grown hgrow (by simp; omega) (fun k hk => by have := ownsRow_ge own3 k hk; simp at this; omega)
    have hown1 := OwnC.snoc hown9
    refine hK.out (fun (w' : World) => w'.cell? ⟨b, 0, none⟩ = some (.pointer (some ⟨bl, 0, none⟩)) ∧ w'.cell? ⟨b, 1, none⟩ = some (.pointer (some ⟨br, 0, none⟩))) _ _ (fun _ h => h) ⟨keep_cell hbw9 h1, keep_cell hbw9 h2⟩ ?_
    clear hK K
    try dsimp only [Act.put]
    refine wpAnyH_take (i := 16) (oi := ?oi701) (v := ?vv701) ?hi701 ?hn701 ?hf701 ?hr701 ?hq701 (Or.inl ⟨?hg701, ?hy701⟩) (show (fun (w' : World) => w'.cell? ⟨b, 0, none⟩ = some (.pointer (some ⟨bl, 0, none⟩)) ∧ w'.cell? ⟨b, 1, none⟩ = some (.pointer (some ⟨br, 0, none⟩))) w9 from ⟨keep_cell hbw9 h1, keep_cell hbw9 h2⟩) ?rest701
    case hi701 => (simp only [List.getElem?_toArray, List.getElem?_cons_succ, List.getElem?_cons_zero]; rfl)
    case hn701 => kernel_rfl
    case hf701 => kernel_rfl
    case hr701 => kernel_rfl
    case hg701 => rfl
    case hy701 => (intro w hSw; (try dsimp only at hSw); go_simp; first | done | with_reducible rfl)
    case hq701 => exact fun _ _ _ h => h
    try dsimp only [Act.put]
    refine wpAnyH_done (by kernel_rfl) ?_ _
    simp only [List.setIfInBounds_toArray]
    have c1 := keep_cell hbw9 h1
    have c2 := keep_cell hbw9 h2
    have hr9 := hr.keep hbw9
    have hs9 := hbw9.size
    have hAl : (A ++ [(here, q)]).length = A.length + 1 := by simp
    clear hown9 hgrow hbn hsn hb3 hb3' own3 hz h1 h2 hl hr jl jf hH0
    go_wp2_with fail
    refine (jr br _ hr9).mono ?_; rintro e w5 ⟨v5, own5, hb5, rfl⟩
    have hbw5 := nx hbw9 hb5
    have own95 := hown1.keep hb5
    have hs5 := hbw5.size
    unfold OwnC at own95
    rw [hAl] at own95
    clear hown1 hbw9 hb5 c1 c2 hr9 hs9
    go_wp2_with (at_builtin; refine wpList_appSrcW rfl _ _ 83 rfl w.heap.size 106 i0 (.agg #[.string ⟨#[]⟩, .bool false]) 2 24 Tryz.underlying83 hi hz0 hz1 hz2 rfl (by decide) _ _ _ rfl own95 _ _ _ rfl own5.src (flatC_length B) (flatC_one B) (by unfold maxLen; omega) (by omega) hs5 ?_; intro v8 w8 hown8 hb8)
    have hbw8 := hbw5.trans hb8
    rw [← hAl] at hown8
    have own8 := OwnC.app hown8
    clear own95 own5 hown8
    go_wp2_with fail
    go_ret
    exact ⟨_, own8, hbw8, rfl⟩
end Go.Proofs.YtlcepokenaiggaaGreatDoor

/-! Ln6 -/
namespace Go.Proofs.YtlcepokenaiggaaGreatDoor
open Go.RowKit

def neC (x : ByteArray × Bool) : Bool := hasB x.1 48 && hasB x.1 49
theorem neC_code (x : ByteArray × Bool) : isNe (codeK x) = neC x := by
  unfold codeK neC
  cases hasB x.1 49 <;> cases hasB x.1 48 <;> simp [isNe_LL, isNe_R, inK_ne]
theorem getD_map {l : List (ByteArray × Bool)} {k : Nat} (h : k < l.length) : (l.map codeK).getD k ⟨#[]⟩ = codeK (l.getD k (⟨#[]⟩, false)) := by simp [h]
theorem any_drop {l : List (ByteArray × Bool)} {k : Nat} (h : k < l.length) : (l.drop k).any neC = (neC (l.getD k (⟨#[]⟩, false)) || (l.drop (k + 1)).any neC) := by
  rw [List.drop_eq_getElem_cons h, List.any_cons]
  simp [h]
set_option maxRecDepth 100000 in
set_option maxHeartbeats 2000000 in
theorem indexNe_any (g o cap : Nat) (xs : List (ByteArray × Bool)) (w : World) (hx : AtC w g o xs) (hg : g < w.heap.size) (hn : xs.length ≤ 1000) (hc : xs.length ≤ cap)
    (hcall : ∀ (args : Array Value) (w : World), (callFunc 102 args).run Tryz.prog w = .ok (.enter 102 args) w) :
    Calls Tryz.prog 128 #[.slice (some ⟨g, o, none⟩) xs.length cap, .func (Fn.func 102) #[] #[]] w fun e w' => ∃ z : Int, e = .returned (.int .i64 z) ∧ decide (0 ≤ z) = xs.any neC ∧ Below w.heap.size w w' := by
  have HX := Lib.hid hx
  obtain ⟨n, hn0⟩ : ∃ n, n = xs.length := ⟨_, rfl⟩
  rw [← hn0] at hn hc ⊢
  have HN := Lib.hid hn0
  clear hx hn0
  go_enter Tryz.func128, Tryz.ntmps128
  go_wp2_with fail
  go_loopw [8] (fun i wr => ∃ k : Nat, k ≤ n ∧ i = .int .i64 k ∧ Hid (xs.any neC = (xs.drop k).any neC) ∧ Below w.heap.size w wr) (fun i _ => n - (intOf i).toNat)
  case atStart => exact ⟨0, Nat.zero_le _, rfl, Lib.hid rfl, Below.refl _ _⟩
  case round =>
    obtain ⟨k, hk, rfl, ha, hbw⟩ := hrel
    by_cases hlt : k < n
    · have hlt' : (k : Int) < (n : Int) := by omega
      have hkx : k < xs.length := by have := HN.out; omega
      obtain ⟨c1, c2⟩ := (HX.out.keep hbw hg) k hkx
      have hd := ha.out
      rw [any_drop hkx] at hd
      generalize xs.getD k (⟨#[]⟩, false) = x at *
      obtain ⟨a, b⟩ := x
      dsimp only at c1 c2
      have hNE := fun w => isOnNeither_any a b w
      change xs.any neC = ((hasB a 48 && hasB a 49) || _) at hd
      generalize (hasB a 48 && hasB a 49) = q at *
      have HD := Lib.hid hd
      clear hd ha hkx
      go_wp2_with fail
      refine (hNE _).mono ?_; rintro e w1 ⟨rfl, hb1⟩
      have hbw1 := nx hbw hb1
      clear hbw hb1 c1 c2
      cases q with
      | true =>
        go_wp2_with fail
        go_ret
        exact ⟨_, rfl, by rw [HD.out]; simp, hbw1⟩
      | false =>
        have HD2 : Hid (xs.any neC = (xs.drop (k + 1)).any neC) := Lib.hid (by have := HD.out; simpa using this)
        clear HD
        go_wp2_with fail
        go_roundw
        case rel => exact ⟨k + 1, by omega, by go_num, HD2, hbw1⟩
        case measure => simp [intOf]; omega
    · obtain rfl : k = n := by omega
      have hd := ha.out
      rw [List.drop_of_length_le (by have := HN.out; omega)] at hd
      have HD := Lib.hid hd
      clear hd ha
      go_wp2_with fail
      go_ret
      exact ⟨_, rfl, by rw [HD.out]; rfl, hbw⟩
set_option maxRecDepth 100000 in
theorem containsNe_any (g o cap : Nat) (xs : List (ByteArray × Bool)) (w : World) (hx : AtC w g o xs) (hg : g < w.heap.size) (hn : xs.length ≤ 1000) (hc : xs.length ≤ cap)
    (hcall : ∀ (args : Array Value) (w : World), (callFunc 102 args).run Tryz.prog w = .ok (.enter 102 args) w) :
    Calls Tryz.prog 117 #[.slice (some ⟨g, o, none⟩) xs.length cap, .func (Fn.func 102) #[] #[]] w (Gives (.bool (xs.any neC)) w) := by
  have hI := indexNe_any g o cap xs w hx hg hn hc hcall
  generalize xs.any neC = q at *
  generalize xs.length = n at *
  clear hx
  have HI := Lib.hid hI
  clear hI
  go_enter Tryz.func117, Tryz.ntmps117
  go_wp2_with fail
  refine HI.out.mono ?_; rintro e w1 ⟨z, rfl, hz, hb1⟩
  go_wp2_with fail
  go_ret
  exact ⟨by rw [← hz]; rfl, hb1⟩
set_option maxRecDepth 100000 in
set_option maxHeartbeats 1000000 in
theorem kindOnRight_any (g o cap : Nat) (xs : List (ByteArray × Bool)) (w : World) (hx : AtC w g o xs) (hg : g < w.heap.size) (hn : xs.length ≤ 1000) (hc : xs.length ≤ cap)
    (hcall : ∀ (args : Array Value) (w : World), (callFunc 102 args).run Tryz.prog w = .ok (.enter 102 args) w) :
    Calls Tryz.prog 103 #[.slice (some ⟨g, o, none⟩) xs.length cap] w (Gives (.string (korK (xs.map codeK))) w) := by
  have hC := fun w hx hg => containsNe_any g o cap xs w hx hg hn hc hcall
  have HX := Lib.hid hx
  have ha : (xs.map codeK).any isNe = xs.any neC := by
    clear hx HX hC hn hc
    induction xs with
    | nil => rfl
    | cons x l ih => simp only [List.map_cons, List.any_cons, ih, neC_code]
  unfold korK
  rw [ha]
  cases hq : xs.any neC with
  | false =>
    rw [hq] at hC
    have hC' := Lib.hid (hC w hx hg)
    clear hC hx ha hq
    show Calls _ _ _ _ (Gives (.string sR0) w)
    go_enter Tryz.func103, Tryz.ntmps103
    go_wp2_with fail
    refine hC'.out.mono ?_; rintro e w1 ⟨rfl, hb1⟩
    go_wp2_with fail
    go_ret
    exact ⟨rfl, hb1⟩
  | true =>
    rw [hq] at hC
    have hpos : 0 < xs.length := by
      cases xs with
      | nil => simp at hq
      | cons x l => simp
    have hp' : (0 : Int) < (xs.length : Int) := by omega
    have hhd : isNe ((xs.map codeK).headD ⟨#[]⟩) = neC (xs.getD 0 (⟨#[]⟩, false)) := by
      cases xs with
      | nil => simp at hq
      | cons x l => exact neC_code x
    rw [hhd, if_neg (by simp)]
    have hX0 := hx 0 hpos
    have hC' := Lib.hid (hC w hx hg)
    clear hC hx ha hq hhd HX
    obtain ⟨c1, c2⟩ := hX0
    rw [Nat.zero_mul, Nat.add_zero] at c1
    rw [Nat.zero_mul, Nat.add_zero] at c2
    generalize xs.getD 0 (⟨#[]⟩, false) = x at *
    obtain ⟨a, b⟩ := x
    dsimp only at c1 c2
    have hNE := fun w => isOnNeither_any a b w
    show Calls _ _ _ _ (Gives (.string (if (hasB a 48 && hasB a 49) = true then sRI else sRN)) w)
    generalize (hasB a 48 && hasB a 49) = q at *
    generalize xs.length = n at *
    cases q with
    | true =>
      show Calls _ _ _ _ (Gives (.string sRI) w)
      go_enter Tryz.func103, Tryz.ntmps103
      go_wp2_with fail
      refine hC'.out.mono ?_; rintro e w1 ⟨rfl, hb1⟩
      replace c1 := keep_cell hb1 c1
      replace c2 := keep_cell hb1 c2
      go_wp2_with fail
      refine (hNE _).mono ?_; rintro e w2 ⟨rfl, hb2⟩
      go_wp2_with fail
      go_ret
      exact ⟨rfl, nx hb1 hb2⟩
    | false =>
      show Calls _ _ _ _ (Gives (.string sRN) w)
      go_enter Tryz.func103, Tryz.ntmps103
      go_wp2_with fail
      refine hC'.out.mono ?_; rintro e w1 ⟨rfl, hb1⟩
      replace c1 := keep_cell hb1 c1
      replace c2 := keep_cell hb1 c2
      go_wp2_with fail
      refine (hNE _).mono ?_; rintro e w2 ⟨rfl, hb2⟩
      go_wp2_with fail
      go_ret
      exact ⟨rfl, nx hb1 hb2⟩

set_option maxRecDepth 100000 in
set_option maxHeartbeats 2000000 in
theorem kindAt_any (g cap i : Nat) (xs : List (ByteArray × Bool)) (w : World) (hx : AtC w g 0 xs) (hg : g < w.heap.size) (hn : xs.length ≤ 1000) (hc : xs.length ≤ cap) (hm : cap ≤ maxLen) (hi : i < xs.length)
    (hcall : ∀ (args : Array Value) (w : World), (callFunc 102 args).run Tryz.prog w = .ok (.enter 102 args) w) :
    Calls Tryz.prog 75 #[.slice (some ⟨g, 0, none⟩) xs.length cap, .int .i64 i] w (Gives (.string (kindK i (codeK (xs.getD i (⟨#[]⟩, false))) ((xs.drop (i + 1)).map codeK))) w) := by
  have hX0 := hx i hi
  unfold maxLen at hm
  have hi' : (i : Int) < (xs.length : Int) := by omega
  have hi0 : 0 ≤ (i : Int) := by omega
  rw [Nat.zero_add] at hX0
  obtain ⟨c1, c2⟩ := hX0
  have hT := AtC.tail hx (i + 1)
  have hTl : (xs.drop (i + 1)).length = xs.length - (i + 1) := List.length_drop
  obtain ⟨ys, hys⟩ : ∃ ys, ys = xs.drop (i + 1) := ⟨_, rfl⟩
  rw [← hys] at hT hTl ⊢
  generalize xs.getD i (⟨#[]⟩, false) = x at *
  obtain ⟨a, b⟩ := x
  dsimp only at c1 c2
  have hL := fun w => isOnLeft_any a b w
  have hN := fun w => isOnNeither_any a b w
  have hyn : ys.length ≤ 1000 := by omega
  have hR := fun w o c hx hg hc => kindOnRight_any g o c ys w hx hg hyn hc hcall
  rw [hTl] at hR
  have hwi : IntKind.i64.wrap ((i : Int) + 1) = (i : Int) + 1 := by rw [IntKind.wrap_i64]; omega
  have hi1 : 0 ≤ (i : Int) + 1 := by omega
  have hin : (i : Int) + 1 ≤ (xs.length : Int) := by omega
  have hic : (i : Int) + 1 ≤ (cap : Int) := by omega
  have htz : ((i : Int) + 1).toNat = i + 1 := by omega
  have hnc : (xs.length : Int) ≤ (cap : Int) := by omega
  generalize hnn : xs.length = n at *
  have HYL := Lib.hid hTl
  have HT := Lib.hid hT
  have HR := Lib.hid hR
  clear hx hys hT hR hyn hnn hTl
  have hb1 := (Below.refl w.heap.size w).alloc (Nat.le_refl _) (.cells #[.string a, .bool b] 106 (0, 0))
  have hx1 := heap_alloc_at w (.cells #[.string a, .bool b] 106 (0, 0))
  obtain ⟨k1, k2, k3⟩ := two_facts hx1
  have hgw := Nat.lt_of_lt_of_le hg hb1.size
  by_cases h0 : i = 0
  · subst h0
    show Calls _ _ _ _ (Gives (.string sL0) w)
    clear HYL hwi hi1 hin hic htz hnc hL hN HT HR k1 k2 k3 hx1 hgw
    go_enter Tryz.func75, Tryz.ntmps75
    go_wp2_with fail
    go_ret
    exact ⟨rfl, hb1⟩
  · have hne : ((i : Int) == 0) = false := by rw [beq_eq_false_iff_ne]; omega
    rw [show kindK i (codeK (a, b)) (ys.map codeK) = if hasB a 49 = false then sLL else if hasB a 48 = false then korK (ys.map codeK) else inK b by
      unfold kindK codeK
      rw [if_neg h0]
      dsimp only
      cases hasB a 49 <;> cases hasB a 48 <;> cases b <;> rfl]
    generalize korK (ys.map codeK) = K at *
    generalize hasB a 49 = p at *
    generalize hasB a 48 = q at *
    have E := Lib.hid h0
    clear h0
    cases p with
    | false =>
      show Calls _ _ _ _ (Gives (.string sLL) w)
      clear hwi hi1 hin hic htz hnc hN HT HR hgw
      go_enter Tryz.func75, Tryz.ntmps75
      go_wp2_with fail
      refine (hL _).mono ?_; rintro e w1 ⟨rfl, hb2⟩
      go_wp2_with fail
      go_ret
      exact ⟨rfl, nx hb1 hb2⟩
    | true =>
      cases q with
      | false =>
        show Calls _ _ _ _ (Gives (.string K) w)
        go_enter Tryz.func75, Tryz.ntmps75
        go_wp2_with fail
        refine (hL _).mono ?_; rintro e w1 ⟨rfl, hb2⟩
        replace k1 := keep_cell hb2 k1
        replace k2 := keep_cell hb2 k2
        go_wp2_with fail
        refine (hN _).mono ?_; rintro e w2 ⟨rfl, hb3⟩
        have hbw := nx (nx hb1 hb2) hb3
        have ht3 := HT.out.keep hbw hg
        have hg3 := Nat.lt_of_lt_of_le hg hbw.size
        have HR3 := fun o c hx hc => HR.out _ o c hx hg3 hc
        have HR4 := Lib.hid HR3
        have HT3 := Lib.hid ht3
        clear HR3 ht3 HR HT hL hN k1 k2 k3 hx1 c1 c2 hb1 hb2 hb3 hgw hg hg3
        by_cases hcc : cap = i + 1
        · subst hcc
          have hnn : n = i + 1 := by omega
          subst hnn
          have hq : ∀ c, Calls Tryz.prog 103 #[.slice (some ⟨g, 0, none⟩) 0 c] w2 (Gives (.string K) w2) := fun c => by
            have h1 := HR4.out 0 c (fun k hk => by have := HYL.out; omega) (by omega)
            rw [Nat.sub_self] at h1
            exact h1
          clear hin hic hnc hc
          go_wp2_with fail
          refine (hq _).mono ?_; rintro e w4 ⟨rfl, hb4⟩
          go_wp2_with fail
          go_ret
          exact ⟨rfl, nx hbw hb4⟩
        · have hcc' : ¬ ((cap : Int) = (i : Int) + 1) := by omega
          go_wp2_with fail
          refine (HR4.out ((i + 1) * 2) (cap - (i + 1)) (by have := HT3.out; rw [Nat.zero_add] at this; exact this) (by omega)).mono ?_; rintro e w4 ⟨rfl, hb4⟩
          go_wp2_with fail
          go_ret
          exact ⟨rfl, nx hbw hb4⟩
      | true =>
        have hfin : ∀ b : Bool, Hid (b = b) := fun _ => Lib.hid rfl
        cases b with
        | true =>
          show Calls _ _ _ _ (Gives (.string sI0) w)
          clear hwi hi1 hin hic htz hnc HT HR hgw hfin
          go_enter Tryz.func75, Tryz.ntmps75
          go_wp2_with fail
          refine (hL _).mono ?_; rintro e w1 ⟨rfl, hb2⟩
          replace k1 := keep_cell hb2 k1
          replace k2 := keep_cell hb2 k2
          go_wp2_with fail
          refine (hN _).mono ?_; rintro e w2 ⟨rfl, hb3⟩
          replace k1 := keep_cell hb3 k1
          replace k2 := keep_cell hb3 k2
          go_wp2_with fail
          go_ret
          exact ⟨rfl, nx (nx hb1 hb2) hb3⟩
        | false =>
          show Calls _ _ _ _ (Gives (.string sIR) w)
          clear hwi hi1 hin hic htz hnc HT HR hgw hfin
          go_enter Tryz.func75, Tryz.ntmps75
          go_wp2_with fail
          refine (hL _).mono ?_; rintro e w1 ⟨rfl, hb2⟩
          replace k1 := keep_cell hb2 k1
          replace k2 := keep_cell hb2 k2
          go_wp2_with fail
          refine (hN _).mono ?_; rintro e w2 ⟨rfl, hb3⟩
          replace k1 := keep_cell hb3 k1
          replace k2 := keep_cell hb3 k2
          go_wp2_with fail
          go_ret
          exact ⟨rfl, nx (nx hb1 hb2) hb3⟩

theorem kindsFrom_snoc (l : List ByteArray) : ∀ (i k : Nat), k < l.length → (kindsFrom i l).take (k + 1) = (kindsFrom i l).take k ++ [kindK (i + k) (l.getD k ⟨#[]⟩) (l.drop (k + 1))] := by
  induction l with
  | nil => intro i k h; simp at h
  | cons x r ih =>
    intro i k h
    match k with
    | 0 => rfl
    | k + 1 =>
      have := ih (i + 1) k (by simpa using h)
      rw [kindsFrom, List.take_succ_cons, List.take_succ_cons, this, show i + 1 + k = i + (k + 1) by omega]
      rfl
theorem kindsFrom_length (l : List ByteArray) : ∀ i, (kindsFrom i l).length = l.length := by
  induction l with
  | nil => intro i; rfl
  | cons x r ih => intro i; simp [kindsFrom, ih]
set_option maxRecDepth 100000 in
set_option maxHeartbeats 2000000 in
theorem kindsOf_any (t : Tr) (w : World) (ht : t.carets ≤ 60) :
    Calls Tryz.prog 49 #[.string t.str] w (GivesS t.kinds w) := by
  obtain ⟨i0, hi, hz0, hz1, hz2⟩ := info_parts info_str
  have hT := fun w => treeOf_any t w (by omega)
  have hC := fun b w h => caretsFrom_any t b ⟨#[]⟩ w h ht (by show 0 + t.carets ≤ 1000; omega)
  have hl := cars_length t ⟨#[]⟩
  have hk := kinds_from t
  rw [← cars_raw] at hk
  have hcall : ∀ (args : Array Value) (w : World), (callFunc 102 args).run Tryz.prog w = .ok (.enter 102 args) w := fun _ _ => by kernel_rfl
  generalize t.cars ⟨#[]⟩ = xs at *
  have hn : xs.length ≤ 60 := by omega
  have HK := Lib.hid hk
  clear hk hl
  go_enter Tryz.func49, Tryz.ntmps49
  go_wp2_with fail
  refine (hT _).mono ?_; rintro e w1 ⟨b1, hn1, hb1, rfl⟩
  go_wp2_with fail
  refine (hC b1 _ hn1).mono ?_; rintro e w2 ⟨v2, own2, hb2, rfl⟩
  have hbw2 := nx hb1 hb2
  clear hT hC hn1 hb1 hb2
  rcases own2.cells with ⟨rfl, rfl⟩ | ⟨g, cap, rfl, _, hg, hc1, hc2, hat⟩
  · clear own2
    go_wp2_with fail
    go_loopw [4, 11] (fun v i wr => v = .slice none 0 0 ∧ i = .int .i64 0 ∧ wr = w2) (fun _ _ _ => 0)
    case atStart => exact ⟨rfl, rfl, rfl⟩
    case round =>
      obtain ⟨rfl, rfl, rfl⟩ := hrel
      go_wp2_with fail
      go_ret
      exact ⟨_, by rw [HK.out]; exact OwnS.nil _ _, hbw2, rfl⟩
  · have HA := Lib.hid hat
    clear own2 hat
    have HKA := fun w hx hg i hi => kindAt_any g cap i xs w hx hg (by omega) hc1 hc2 hi hcall
    obtain ⟨n, hnn⟩ : ∃ n, n = xs.length := ⟨_, rfl⟩
    rw [← hnn] at HKA hn hc1 ⊢
    have HN := Lib.hid hnn
    clear hnn
    go_wp2_with fail
    go_loopw [4, 11] (fun v i wr => ∃ k : Nat, k ≤ n ∧ i = .int .i64 k ∧ OwnS w2.heap.size wr v ((kindsFrom 0 (xs.map codeK)).take k) ∧ Below w2.heap.size w2 wr) (fun _ i _ => n - (intOf i).toNat)
    case atStart => exact ⟨0, Nat.zero_le _, rfl, OwnS.nil _ _, Below.refl _ _⟩
    case round =>
      obtain ⟨k, hk, rfl, hown, hbw⟩ := hrel
      by_cases hlt : k < n
      · have hlt' : (k : Int) < (n : Int) := by omega
        have hkx : k < xs.length := by have := HN.out; omega
        have hnext := kindsFrom_snoc (xs.map codeK) 0 k (by simpa using hkx)
        rw [Nat.zero_add, getD_map hkx, ← List.map_drop] at hnext
        have hlen : ((kindsFrom 0 (xs.map codeK)).take k).length = k := by rw [List.length_take, kindsFrom_length, List.length_map]; omega
        have hKA := HKA wr (HA.out.keep hbw hg) (Nat.lt_of_lt_of_le hg hbw.size) k hlt
        generalize kindK k (codeK (xs.getD k (⟨#[]⟩, false))) ((xs.drop (k + 1)).map codeK) = K at *
        generalize (kindsFrom 0 (xs.map codeK)).take k = ts at *
        have HNX := Lib.hid hnext
        have HH := Lib.hid hKA
        clear hnext hKA hkx
        go_wp2_with fail
        refine HH.out.mono ?_; rintro e w3 ⟨rfl, hb3⟩
        have hbw3 := nx hbw hb3
        have own3 := hown.keep hb3
        have hs3 := hbw3.size
        clear hown hbw hb3
        go_wp2_with (at_builtin; refine wpList_append_own _ rfl _ _ 58 rfl w2.heap.size 9 i0 (.string ⟨#[]⟩) 1 16 Tryz.underlying58 hi hz0 hz1 hz2 rfl (by decide) _ _ _ rfl (own3.alloc _) ⟨w3.heap.size, 0, none⟩ 1 1 [.string K] rfl rfl (new1 _ _ _) (one_str1 _) (by unfold maxLen; omega) (by omega) (by simp; omega) ?_; intro v' w9 hown' hgrow hnn)
        have hbw9 := (nxAlloc hbw3 (.cells #[.string K] 9 (0, 0))).grown hgrow (by simp; omega) (fun k hk => ownsRow_ge own3 k hk)
        have own9 := OwnS.snoc1 hown'
        clear own3 hown' hgrow hnn hbw3
        go_wp2_with fail
        go_roundw
        case rel => exact ⟨k + 1, by omega, by go_num, by rw [HNX.out]; exact own9, hbw9⟩
        case measure => simp [intOf]; omega
      · obtain rfl : k = n := by omega
        rw [List.take_of_length_le (by rw [kindsFrom_length, List.length_map]; have := HN.out; omega)] at hown
        go_wp2_with fail
        go_ret
        exact ⟨_, by rw [HK.out]; exact hown.mono hbw2.size, nx hbw2 hbw, rfl⟩
end Go.Proofs.YtlcepokenaiggaaGreatDoor

/-! Ln7 -/
namespace Go.Proofs.YtlcepokenaiggaaGreatDoor
open Go.RowKit

/-- The table of lengths, which reads so in whatever world is left. -/
def TabL (w : World) : Prop := Lib.TabBelow Tryz.prog w.heap.size w "loop.example/g01161/impl.kindLengths" .i64 tabK
theorem TabL.keep {w w' : World} (h : TabL w) (hb : Below w.heap.size w w') : TabL w' := fun w'' h2 => h w'' (nx hb h2)
theorem TabL.of {w : World} (h : Lib.TabIs Tryz.prog w "loop.example/g01161/impl.kindLengths" .i64 tabK) : TabL w := Lib.tabBelow_of_tabIs h
theorem TabL.cell {w : World} (h : TabL w) (i : Nat) (hi : i < 36) : w.cell? ⟨0, i, none⟩ = some (.int .i64 (tabK.getD i 0)) := Lib.TabIs.cell h.here (by kernel_rfl) i hi
set_option maxRecDepth 100000 in
set_option maxHeartbeats 2000000 in
theorem kindLength_any (a b : ByteArray) (w : World) (hT : TabL w) : Calls Tryz.prog 50 #[.string a, .string b] w (Gives (ansJ (lenO a b)) w) := by
  have hA := fun w => kindPlace_any a w
  have hB := fun w => kindPlace_any b w
  have ra := rowK_range a
  have rb := rowK_range b
  have ea := str_eq a sL0
  have eb := str_eq b sL0
  unfold lenO
  by_cases h0 : a = sL0 ∧ b = sL0
  · rw [if_pos h0]
    obtain ⟨rfl, rfl⟩ := h0
    clear hA hB ra rb ea eb
    unfold sL0
    go_enter Tryz.func50, Tryz.ntmps50
    go_wp2_with fail
    go_ret2
    exact ⟨rfl, Below.refl _ _⟩
  · rw [if_neg h0]
    have e0 : sL0.toList = [76, 48] := by rw [Lib.toList_data]; rfl
    rw [e0] at ea eb
    have hc : (a.toList == [76, 48]) = false ∨ ((a.toList == [76, 48]) = true ∧ (b.toList == [76, 48]) = false) := by
      rw [ea, eb]
      by_cases k : a = sL0
      · exact .inr ⟨by simp [k], by simp; exact fun e => h0 ⟨k, e⟩⟩
      · exact .inl (by simp [k])
    clear ea eb h0 e0
    generalize rowK a = x at *
    generalize rowK b = y at *
    by_cases h1 : x < 0 ∨ y < 0
    · rw [if_pos h1]
      have h1' : x < 0 ∨ (¬ x < 0 ∧ y < 0) := by omega
      clear h1
      rcases hc with hc | ⟨hc, hd⟩ <;> rcases h1' with h1 | ⟨h1, h2⟩
      all_goals
        go_enter Tryz.func50, Tryz.ntmps50
        go_wp2_with fail
        refine (hA _).mono ?_; rintro e w1 ⟨rfl, hb1⟩
        go_wp2_with fail
        refine (hB _).mono ?_; rintro e w2 ⟨rfl, hb2⟩
        go_wp2_with fail
        go_ret2
        exact ⟨rfl, nx hb1 hb2⟩
    · rw [if_neg h1]
      have h2 : 0 ≤ x ∧ x ≤ 5 ∧ 0 ≤ y ∧ y ≤ 5 := by omega
      obtain ⟨x0, x5, y0, y5⟩ := h2
      have hx : ¬ x < 0 := by omega
      have hy : ¬ y < 0 := by omega
      have hx6 : x < 6 := by omega
      have hy6 : y < 6 := by omega
      have hK := fun w (h : TabL w) => h.cell (x.toNat * 6 + y.toNat) (by omega)
      generalize tabK.getD (x.toNat * 6 + y.toNat) 0 = z at *
      clear h1 ra rb
      rcases hc with hc | ⟨hc, hd⟩
      all_goals
        go_enter Tryz.func50, Tryz.ntmps50
        go_wp2_with fail
        refine (hA _).mono ?_; rintro e w1 ⟨rfl, hb1⟩
        go_wp2_with fail
        refine (hB _).mono ?_; rintro e w2 ⟨rfl, hb2⟩
        have hc2 := hK w2 (hT.keep (nx hb1 hb2))
        go_wp2_with fail
        go_ret2
        exact ⟨rfl, nx hb1 hb2⟩
theorem implKindLength_any (a b : ByteArray) (w : World) (hT : TabL w) (_ha : a.size ≤ 9223372036854775806) (_hb : b.size ≤ 9223372036854775806) : Calls Tryz.prog 50 #[.string a, .string b] w (Gives (ansJ (lenO a b)) w) := kindLength_any a b w hT
end Go.Proofs.YtlcepokenaiggaaGreatDoor

/-! Ln9 -/
namespace Go.Proofs.YtlcepokenaiggaaGreatDoor
open Go.RowKit

set_option maxRecDepth 100000 in
set_option maxHeartbeats 2000000 in
theorem lengthOf_any (p : Pr) (w : World) (hT : TabL w) (hok : okP p) (h1 : p.1.carets ≤ 60) (h2 : p.2.carets ≤ 60) :
    Calls Tryz.prog 26 #[.agg #[.string p.1.str, .string p.2.str]] w (Gives (.int .i64 (lenP p)) w) := by
  have hA := fun w => kindsOf_any p.1 w h1
  have hB := fun w => kindsOf_any p.2 w h2
  obtain ⟨n, hn⟩ : ∃ n, n = p.1.kinds.length := ⟨_, rfl⟩
  have hnc : n = p.1.carets := by rw [hn, kinds_length]
  have hy : p.2.kinds.length = n := by rw [kinds_length, hnc]; exact hok.symm
  have hlen : lenP p = lenU p.1.kinds p.2.kinds n := by unfold lenP; rw [hn]
  have hx := hn.symm
  rw [hlen]
  clear hlen hn
  have hR := lenU_range p.1.kinds p.2.kinds
  have hS : ∀ k, lenU p.1.kinds p.2.kinds (k + 1) = lenU p.1.kinds p.2.kinds k + lenV (p.1.kinds.getD k ⟨#[]⟩) (p.2.kinds.getD k ⟨#[]⟩) := fun k => rfl
  have hV := lenV_range
  have hU0 : lenU p.1.kinds p.2.kinds 0 = 0 := rfl
  have hn60 : n ≤ 60 := by omega
  clear hnc
  generalize lenU p.1.kinds p.2.kinds = U at *
  generalize p.1.kinds = xs at *
  generalize p.2.kinds = ys at *
  go_enter Tryz.func26, Tryz.ntmps26
  go_wp2_with fail
  have hb0 : Below w.heap.size w (w.alloc (.cells #[.string p.1.str, .string p.2.str] 28 (0, 0))) := nxAlloc (Below.refl _ _) _
  have hx0 := heap_alloc_at w (.cells #[.string p.1.str, .string p.2.str] 28 (0, 0))
  generalize (w.alloc (.cells #[.string p.1.str, .string p.2.str] 28 (0, 0))) = w0 at *
  obtain ⟨hx0a, hx0b, hx0c⟩ := two_facts hx0
  obtain ⟨hx0f, hx0g⟩ := two_frozen hx0
  go_wp2_with fail
  refine (hB _).mono ?_; rintro e w1 ⟨v2, own2, hb1, rfl⟩
  have hbw1 := nx hb0 hb1
  replace hx0 := heap_keep hb1 hx0
  clear hx0a hx0b hx0c hx0f hx0g
  obtain ⟨hx0a, hx0b, hx0c⟩ := two_facts hx0
  obtain ⟨hx0f, hx0g⟩ := two_frozen hx0
  go_wp2_with fail
  refine (hA _).mono ?_; rintro e w2 ⟨v1, own1', hb2, rfl⟩
  have hbw2 := nx hbw1 hb2
  replace own2 := own2.keep hb2
  have hT2 := hT.keep hbw2
  clear hx0 hx0a hx0b hx0c hx0f hx0g hb0 hb1 hb2 hbw1 hA hB hT
  by_cases hn0 : n = 0
  · subst hn0
    obtain rfl := List.length_eq_zero_iff.1 hx
    have hv1 : (v1 = .slice none 0 0) ∨ ∃ g c, v1 = .slice (some ⟨g, 0, none⟩) 0 c := by
      rcases own1'.cells with ⟨h0, _⟩ | ⟨g1, cap1, h0, _⟩
      · exact .inl h0
      · exact .inr ⟨g1, cap1, h0⟩
    clear own1' own2 hS hR hV
    rcases hv1 with rfl | ⟨g, c, rfl⟩
    all_goals
      go_wp2_with fail
      go_loopw [3, 16] (fun s i wr => s = .int .i64 0 ∧ i = .int .i64 0 ∧ wr = w2) (fun _ _ _ => 0)
      case atStart => exact ⟨rfl, rfl, rfl⟩
      case round =>
        obtain ⟨rfl, rfl, rfl⟩ := hrel
        go_wp2_with fail
        go_ret
        exact ⟨by rw [hU0]; rfl, hbw2⟩
  · skip
    rcases own1'.cells with ⟨h0, h1⟩ | ⟨g1, cap1, rfl, _, hg1, hc1, hc2, hcell1, _⟩
    · rw [h1] at hx
      simp at hx
      omega
    rcases own2.cells with ⟨h0, h1⟩ | ⟨g2, cap2, rfl, _, hg2, hc3, hc4, hcell2, _⟩
    · rw [h1] at hy
      simp at hy
      omega
    rw [hx] at hc1 hcell1 ⊢
    rw [hy] at hc3 hcell2 ⊢
    have HC1 := Lib.hid hcell1
    have HC2 := Lib.hid hcell2
    unfold maxLen at hc2 hc4
    clear hcell1 hcell2 own1' own2
    go_wp2_with fail
    go_loopw [3, 16] (fun s i wr => ∃ k : Nat, k ≤ n ∧ i = .int .i64 k ∧ s = .int .i64 (U k) ∧ Below w2.heap.size w2 wr) (fun _ i _ => n - (intOf i).toNat)
    case atStart => exact ⟨0, Nat.zero_le _, rfl, by rw [hU0], Below.refl _ _⟩
    case round =>
      obtain ⟨k, hk, rfl, rfl, hbw⟩ := hrel
      by_cases hlt : k < n
      · have hlt' : (k : Int) < (n : Int) := by omega
        have d1 := HC1.out k (by omega)
        have d2 := HC2.out k (by omega)
        have hs := hS k
        have hr := hR k
        have hv := hV (xs.getD k ⟨#[]⟩) (ys.getD k ⟨#[]⟩)
        have hlv : ∀ a b, lenV a b = (lenO a b).getD 0 := fun _ _ => rfl
        rw [hlv] at hs hv
        generalize xs.getD k ⟨#[]⟩ = a at *
        generalize ys.getD k ⟨#[]⟩ = b at *
        have c1 := (hbw.cell (p := ⟨g1, k, none⟩) hg1).trans d1
        have c2 := (hbw.cell (p := ⟨g2, k, none⟩) hg2).trans d2
        have hL := fun w hT => kindLength_any a b w hT
        unfold ansJ at hL
        generalize (lenO a b).getD 0 = z at *
        generalize (lenO a b).isSome = q at *
        have hw : IntKind.i64.wrap (U k + z) = U k + z := by rw [IntKind.wrap_i64]; omega
        have HS := Lib.hid hs
        clear hs hlv hv hr hS hR hV d1 d2
        go_wp2_with fail
        refine (hL _ (hT2.keep hbw)).mono ?_; rintro e w3 ⟨rfl, hb3⟩
        have hbw3 := nx hbw hb3
        clear hb3 hbw c1 c2 hL
        go_wp2_with fail
        go_roundw
        case rel => exact ⟨k + 1, by omega, by go_num, by rw [HS.out], hbw3⟩
        case measure => simp [intOf]; omega
      · obtain rfl : k = n := by omega
        clear hS hR hV
        go_wp2_with fail
        go_ret
        exact ⟨rfl, nx hbw2 hbw⟩
end Go.Proofs.YtlcepokenaiggaaGreatDoor

/-! WLengthOf -/
namespace Go.Proofs.YtlcepokenaiggaaGreatDoor
open Go.RowKit

def LengthOf_o (a b : ByteArray) : Option Int := (pairOf a b).bind fun p => some (lenP (red p))
theorem red_small {p : Pr} (hok : okP p) (h : p.1.carets ≤ 60) : okP (red p) ∧ (red p).1.carets ≤ 60 ∧ (red p).2.carets ≤ 60 := by
  have h1 := red_ok hok []
  have h2 := redBy_carets p []
  unfold okP at hok
  exact ⟨h1, by show (redBy p []).1.carets ≤ 60; omega, by show (redBy p []).2.carets ≤ 60; omega⟩

set_option maxRecDepth 100000 in
set_option maxHeartbeats 1000000 in
theorem implLengthOf_any (a b : ByteArray) (w : World) (hT : TabL w) (ha : a.size ≤ 9223372036854775806) (hb : b.size ≤ 9223372036854775806) :
    Calls Tryz.prog 29 #[.agg #[.string a, .string b]] w (Gives (ansJ (LengthOf_o a b)) w) := by
  have hg := fun w => implReducePair_any a b w ha hb
  unfold LengthOf_o
  cases h : pairOf a b with
  | none =>
    rw [h] at hg
    change ∀ w, Calls _ _ _ w (Gives (.tuple #[.agg #[.string ⟨#[]⟩, .string ⟨#[]⟩], .bool false]) w) at hg
    clear h
    go_enter Tryz.func29, Tryz.ntmps29
    go_wp2_with fail
    have hb0 : Below w.heap.size w (w.alloc (.cells #[.string a, .string b] 28 (0, 0))) := nxAlloc (Below.refl _ _) _
    have hx0 := heap_alloc_at w (.cells #[.string a, .string b] 28 (0, 0))
    generalize (w.alloc (.cells #[.string a, .string b] 28 (0, 0))) = w0 at *
    obtain ⟨hx0a, hx0b, hx0c⟩ := two_facts hx0
    obtain ⟨hx0f, hx0g⟩ := two_frozen hx0
    refine (hg _).mono ?_; rintro e w1 ⟨rfl, hb1⟩
    have hbw1 := nx hb0 hb1
    replace hx0 := heap_keep hb1 hx0
    clear hx0a hx0b hx0c hx0f hx0g
    obtain ⟨hx0a, hx0b, hx0c⟩ := two_facts hx0
    obtain ⟨hx0f, hx0g⟩ := two_frozen hx0
    clear hb1 hb0
    go_wp2_with fail
    go_ret2
    exact ⟨rfl, (hbw1.setCell (Nat.le_refl _) _).setCell (Nat.le_refl _) _⟩
  | some p =>
    rw [h] at hg
    obtain ⟨rfl, rfl, hok, hc1, hc2⟩ := pairOf_some h
    obtain ⟨k1, k2, k3⟩ := red_small hok (by omega)
    have hL := fun w hT => lengthOf_any (red p) w hT k1 k2 k3
    clear h
    change ∀ w, Calls _ _ _ w (Gives (.tuple #[.agg #[.string (red p).1.str, .string (red p).2.str], .bool true]) w) at hg
    show Calls _ _ _ _ (Gives (ansJ (some (lenP (red p)))) w)
    generalize lenP (red p) = z at *
    generalize (red p).1.str = A at *
    generalize (red p).2.str = B at *
    go_enter Tryz.func29, Tryz.ntmps29
    go_wp2_with fail
    have hb0 : Below w.heap.size w (w.alloc (.cells #[.string p.1.str, .string p.2.str] 28 (0, 0))) := nxAlloc (Below.refl _ _) _
    have hx0 := heap_alloc_at w (.cells #[.string p.1.str, .string p.2.str] 28 (0, 0))
    generalize (w.alloc (.cells #[.string p.1.str, .string p.2.str] 28 (0, 0))) = w0 at *
    obtain ⟨hx0a, hx0b, hx0c⟩ := two_facts hx0
    obtain ⟨hx0f, hx0g⟩ := two_frozen hx0
    refine (hg _).mono ?_; rintro e w1 ⟨rfl, hb1⟩
    have hbw1 := nx hb0 hb1
    replace hx0 := heap_keep hb1 hx0
    clear hx0a hx0b hx0c hx0f hx0g
    obtain ⟨hx0a, hx0b, hx0c⟩ := two_facts hx0
    obtain ⟨hx0f, hx0g⟩ := two_frozen hx0
    clear hb1 hb0
    have hbs := (hbw1.setCell (p := ⟨w.heap.size, 0, none⟩) (Nat.le_refl _) (.string A)).setCell (p := ⟨w.heap.size, 1, none⟩) (Nat.le_refl _) (.string B)
    obtain ⟨q1, q2⟩ := two_cells (set_two (.string A) (.string B) hx0)
    go_wp2_with fail
    refine (hL _ (hT.keep hbs)).mono ?_; rintro e w2 ⟨rfl, hb2⟩
    go_wp2_with fail
    go_ret2
    exact ⟨rfl, nx hbs hb2⟩

end Go.Proofs.YtlcepokenaiggaaGreatDoor

/-! Lt3 -/
namespace Go.Proofs.YtlcepokenaiggaaGreatDoor
open Go.RowKit

theorem nextL_red {p : Pr} (hp : okP p) : nextL (red p) = nextL p := by
  unfold nextL
  refine List.map_congr_left fun x _ => ?_
  rw [mulP_redL hp (ltP_ok x).1]
def NextLengths_o (a b : ByteArray) : Option (List Int) := (pairOf a b).bind fun p => some (nextL (red p))
theorem NextLengths_len (a b : ByteArray) : ((NextLengths_o a b).getD []).length ≤ 1000000000 := by
  unfold NextLengths_o
  cases pairOf a b with
  | none => simp
  | some p => show (nextL (red p)).length ≤ _; rw [nextL_length]; omega

set_option maxRecDepth 100000 in
set_option maxHeartbeats 1000000 in
theorem specNextLengths_any (a b : ByteArray) (w : World) (ha : a.size ≤ 9223372036854775806) (hb : b.size ≤ 9223372036854775806) :
    Calls Tryz.prog 8 #[.agg #[.string a, .string b]] w (AnsIs (NextLengths_o a b) w) := by
  have hg := fun w => prGood_any a b w ha hb
  unfold NextLengths_o
  cases h : pairOf a b with
  | none =>
    rw [h] at hg
    clear h
    go_enter Tryz.func8, Tryz.ntmps8
    go_wp2_with fail
    have hb0 : Below w.heap.size w (w.alloc (.cells #[.string a, .string b] 28 (0, 0))) := nxAlloc (Below.refl _ _) _
    have hx0 := heap_alloc_at w (.cells #[.string a, .string b] 28 (0, 0))
    generalize (w.alloc (.cells #[.string a, .string b] 28 (0, 0))) = w0 at *
    obtain ⟨hx0a, hx0b, hx0c⟩ := two_facts hx0
    obtain ⟨hx0f, hx0g⟩ := two_frozen hx0
    refine (hg _).mono ?_; rintro e w1 ⟨rfl, hb1⟩
    have hbw1 := nx hb0 hb1
    replace hx0 := heap_keep hb1 hx0
    clear hx0a hx0b hx0c hx0f hx0g
    obtain ⟨hx0a, hx0b, hx0c⟩ := two_facts hx0
    obtain ⟨hx0f, hx0g⟩ := two_frozen hx0
    clear hb1 hb0
    go_wp2_with fail
    go_ret2
    exact ⟨_, OwnI.nil _ _, hbw1, rfl⟩
  | some p =>
    rw [h] at hg
    obtain ⟨rfl, rfl, hok, hc1, hc2⟩ := pairOf_some h
    obtain ⟨k1, k2, k3⟩ := red_small hok (by omega)
    have hcr := redBy_carets p []
    have hL := fun w => lnNext_any (red p) w k1 (by show (redBy p []).1.carets ≤ 30; omega)
    clear h
    show Calls _ _ _ _ (AnsI2 (nextL (red p)) true w)
    generalize nextL (red p) = zs at *
    go_enter Tryz.func8, Tryz.ntmps8
    go_wp2_with fail
    have hb0 : Below w.heap.size w (w.alloc (.cells #[.string p.1.str, .string p.2.str] 28 (0, 0))) := nxAlloc (Below.refl _ _) _
    have hx0 := heap_alloc_at w (.cells #[.string p.1.str, .string p.2.str] 28 (0, 0))
    generalize (w.alloc (.cells #[.string p.1.str, .string p.2.str] 28 (0, 0))) = w0 at *
    obtain ⟨hx0a, hx0b, hx0c⟩ := two_facts hx0
    obtain ⟨hx0f, hx0g⟩ := two_frozen hx0
    refine (hg _).mono ?_; rintro e w1 ⟨rfl, hb1⟩
    have hbw1 := nx hb0 hb1
    replace hx0 := heap_keep hb1 hx0
    clear hx0a hx0b hx0c hx0f hx0g
    obtain ⟨hx0a, hx0b, hx0c⟩ := two_facts hx0
    obtain ⟨hx0f, hx0g⟩ := two_frozen hx0
    clear hb1 hb0
    go_wp2_with fail
    refine (prReduce_nil p _ (by omega) (by omega)).mono ?_; rintro e w2 ⟨rfl, hb2⟩
    have hbw2 := nx hbw1 hb2
    replace hx0 := heap_keep hb2 hx0
    clear hx0a hx0b hx0c hx0f hx0g
    obtain ⟨hx0a, hx0b, hx0c⟩ := two_facts hx0
    obtain ⟨hx0f, hx0g⟩ := two_frozen hx0
    clear hb2 hbw1
    go_wp2_with fail
    refine (hL _).mono ?_; rintro e w3 ⟨v3, own3, hb3, rfl⟩
    go_wp2_with fail
    go_ret2
    exact ⟨_, own3.mono hbw2.size, nx hbw2 hb3, rfl⟩

set_option maxRecDepth 100000 in
set_option maxHeartbeats 2000000 in
theorem implNextLengths_any (a b : ByteArray) (w : World) (hT : TabL w) (ha : a.size ≤ 9223372036854775806) (hb : b.size ≤ 9223372036854775806) :
    Calls Tryz.prog 10 #[.agg #[.string a, .string b]] w (AnsIs (NextLengths_o a b) w) := by
  obtain ⟨i0, hi, hz0, hz1, hz2⟩ := info_parts info_int
  have hg := fun w => isPair_any a b w ha hb
  unfold NextLengths_o
  cases h : pairOf a b with
  | none =>
    rw [h] at hg
    clear h
    go_enter Tryz.func10, Tryz.ntmps10
    go_wp2_with fail
    have hb0 : Below w.heap.size w (w.alloc (.cells #[.string a, .string b] 28 (0, 0))) := nxAlloc (Below.refl _ _) _
    have hx0 := heap_alloc_at w (.cells #[.string a, .string b] 28 (0, 0))
    generalize (w.alloc (.cells #[.string a, .string b] 28 (0, 0))) = w0 at *
    obtain ⟨hx0a, hx0b, hx0c⟩ := two_facts hx0
    obtain ⟨hx0f, hx0g⟩ := two_frozen hx0
    refine (hg _).mono ?_; rintro e w1 ⟨rfl, hb1⟩
    have hbw1 := nx hb0 hb1
    replace hx0 := heap_keep hb1 hx0
    clear hx0a hx0b hx0c hx0f hx0g
    obtain ⟨hx0a, hx0b, hx0c⟩ := two_facts hx0
    obtain ⟨hx0f, hx0g⟩ := two_frozen hx0
    clear hb1 hb0
    go_wp2_with fail
    go_ret2
    exact ⟨_, OwnI.nil _ _, hbw1, rfl⟩
  | some p =>
    rw [h] at hg
    obtain ⟨rfl, rfl, hok, hc1, hc2⟩ := pairOf_some h
    clear h
    show Calls _ _ _ _ (AnsI2 (nextL (red p)) true w)
    rw [nextL_red hok]
    go_enter Tryz.func10, Tryz.ntmps10
    go_wp2_with fail
    have hb0 : Below w.heap.size w (w.alloc (.cells #[.string p.1.str, .string p.2.str] 28 (0, 0))) := nxAlloc (Below.refl _ _) _
    have hx0 := heap_alloc_at w (.cells #[.string p.1.str, .string p.2.str] 28 (0, 0))
    generalize (w.alloc (.cells #[.string p.1.str, .string p.2.str] 28 (0, 0))) = w0 at *
    obtain ⟨hx0a, hx0b, hx0c⟩ := two_facts hx0
    obtain ⟨hx0f, hx0g⟩ := two_frozen hx0
    refine (hg _).mono ?_; rintro e w1 ⟨rfl, hb1⟩
    have hbw1 := nx hb0 hb1
    replace hx0 := heap_keep hb1 hx0
    clear hx0a hx0b hx0c hx0f hx0g
    obtain ⟨hx0a, hx0b, hx0c⟩ := two_facts hx0
    obtain ⟨hx0f, hx0g⟩ := two_frozen hx0
    clear hb1 hb0
    go_wp2_with fail
    refine (twoLetters_any _).mono ?_; rintro e w2 ⟨rfl, hL0, hg1, hb2⟩
    have hbw2 := nx hbw1 hb2
    replace hx0 := heap_keep hb2 hx0
    clear hx0a hx0b hx0c hx0f hx0g
    obtain ⟨hx0a, hx0b, hx0c⟩ := two_facts hx0
    obtain ⟨hx0f, hx0g⟩ := two_frozen hx0
    have HL := Lib.hid hL0
    have e1 := hx0a
    have e2 := hx0b
    have hT2 := hT.keep hbw2
    generalize w1.heap.size = g at *
    clear hL0 hx0 hx0a hx0b hx0c hx0f hx0g hb2 hbw1 hT
    go_wp2_with fail
    go_loopw [4, 12] (fun v i wr => ∃ k : Nat, k ≤ 4 ∧ i = .int .i64 k ∧ OwnI w2.heap.size wr v ((nextL p).take k) ∧ Below w2.heap.size w2 wr) (fun _ i _ => 4 - (intOf i).toNat)
    case atStart => exact ⟨0, Nat.zero_le _, rfl, OwnI.nil _ _, Below.refl _ _⟩
    case round =>
      obtain ⟨k, hk, rfl, hown, hbw⟩ := hrel
      by_cases hlt : k < 4
      · have hlt' : (k : Int) < 4 := by omega
        have c1 := (hbw.cell (p := ⟨g, k, none⟩) hg1).trans (HL.out k hlt)
        obtain ⟨x0, x1, x2⟩ := fourL_get k hlt
        have hnext := nextL_take p k hlt
        have hlen : ((nextL p).take k).length = k := by rw [List.length_take, nextL_length]; omega
        generalize fourL.getD k 0 = x at *
        obtain ⟨k1, k2, k3⟩ := ltP_small x0 x1 x2
        obtain ⟨m1, m2, m3⟩ := mulP_small hok k1 (by omega) (by omega)
        have hW := fun w => withLetter_any p x w hok (by omega) x0 x1 x2
        have hL := fun w hT => lengthOf_any (mulP p (ltP x)) w hT m1 m2 m3
        generalize lenP (mulP p (ltP x)) = z at *
        generalize (mulP p (ltP x)).1.str = C at *
        generalize (mulP p (ltP x)).2.str = D at *
        generalize (nextL p).take k = ts at *
        have HN := Lib.hid hnext
        have f1 := keep_cell hbw e1
        have f2 := keep_cell hbw e2
        clear hnext k1 k2 k3 m1 m2 m3
        go_wp2_with fail
        refine (hW _).mono ?_; rintro e w3 ⟨rfl, hb3⟩
        have hbw3 := nx hbw hb3
        have own3 := hown.keep hb3
        clear hown hbw hb3 f1 f2 c1
        go_wp2_with fail
        refine (hL _ (hT2.keep hbw3)).mono ?_; rintro e w4 ⟨rfl, hb4⟩
        have hbw4 := nx hbw3 hb4
        have own4 := own3.keep hb4
        have hs4 := hbw4.size
        clear own3 hbw3 hb4
        go_wp2_with (at_builtin; refine wpList_append_own _ rfl _ _ 25 rfl w2.heap.size 3 i0 (.int .i64 0) 1 8 Tryz.underlying25 hi hz0 hz1 hz2 rfl (by decide) _ _ _ rfl (own4.alloc _) ⟨w4.heap.size, 0, none⟩ 1 1 [.int .i64 z] rfl rfl (new1 _ _ _) (one1 _) (by unfold maxLen; omega) (by omega) (by simp; omega) ?_; intro v' w9 hown' hgrow hnn)
        have hbw9 := (nxAlloc hbw4 (.cells #[.int .i64 z] 3 (0, 0))).grown hgrow (by simp; omega) (fun k hk => ownsRow_ge own4 k hk)
        have own9 := OwnI.snoc hown'
        clear own4 hown' hgrow hnn hbw4
        go_wp2_with fail
        go_roundw
        case rel => exact ⟨k + 1, by omega, by go_num, by rw [HN.out]; exact own9, hbw9⟩
        case measure => simp [intOf]; omega
      · obtain rfl : k = 4 := by omega
        have hown' := hown
        change OwnI w2.heap.size wr _ (nextL p) at hown'
        clear hown
        go_wp2_with fail
        go_ret2
        exact ⟨_, hown'.mono hbw2.size, nx hbw2 hbw, rfl⟩
end Go.Proofs.YtlcepokenaiggaaGreatDoor

/-! WNextLengths -/
namespace Go.Proofs.YtlcepokenaiggaaGreatDoor
open Go.RowKit

set_option maxRecDepth 100000 in
set_option maxHeartbeats 1000000 in
theorem fnExactNextLengths_walk (a : ByteArray) (ha : a.size ≤ maxLen) (b : ByteArray) (hb : b.size ≤ maxLen) (w : World) (hT : TabL w) :
    Calls Tryz.prog 3 #[.agg #[.string a, .string b]] w fun e w' => e = .returned (.bool true) ∧ Below w.heap.size w w' := by
  unfold maxLen at ha hb
  have hsz := fun w => szPair_any a b w (by omega) (by omega) 1048576 (by omega) (by omega)
  by_cases hz : (a.size : Int) + b.size ≤ 1048576
  rotate_left
  · simp only [if_neg hz] at hsz
    go_enter Tryz.func3, Tryz.ntmps3
    go_wp2_with fail
    have hb0 : Below w.heap.size w (w.alloc (.cells #[.string a, .string b] 23 (0, 0))) := nxAlloc (Below.refl _ _) _
    have hx := heap_alloc_at w (.cells #[.string a, .string b] 23 (0, 0))
    generalize w.alloc (.cells #[.string a, .string b] 23 (0, 0)) = w0 at *
    obtain ⟨ka, kb, kc⟩ := two_facts hx
    refine (hsz _).mono ?_; rintro e w1 ⟨rfl, hb1⟩
    go_wp2_with fail
    go_ret
    exact ⟨rfl, nx hb0 hb1⟩
  simp only [if_pos hz] at hsz
  have hS := fun w => specNextLengths_any a b w (by omega) (by omega)
  have hI := fun w hT => implNextLengths_any a b w hT (by omega) (by omega)
  have hn9 := NextLengths_len a b
  obtain ⟨o, ho⟩ : ∃ o, o = NextLengths_o a b := ⟨_, rfl⟩
  rw [← ho] at hn9
  simp only [← ho] at hS hI
  clear ho
  obtain ⟨xs, ok, hx9, hk9⟩ : ∃ xs ok, xs = o.getD [] ∧ ok = o.isSome := ⟨_, _, rfl, rfl⟩
  have hS' : ∀ w, Calls Tryz.prog 8 #[.agg #[.string a, .string b]] w (AnsI2 xs ok w) := by rw [hx9, hk9]; exact hS
  have hI' : ∀ w, TabL w → Calls Tryz.prog 10 #[.agg #[.string a, .string b]] w (AnsI2 xs ok w) := by rw [hx9, hk9]; exact hI
  rw [← hx9] at hn9
  clear hS hI hx9 hk9 o
  go_enter Tryz.func3, Tryz.ntmps3
  go_wp2_with fail
  have hb0 : Below w.heap.size w (w.alloc (.cells #[.string a, .string b] 23 (0, 0))) := nxAlloc (Below.refl _ _) _
  have hx := heap_alloc_at w (.cells #[.string a, .string b] 23 (0, 0))
  generalize w.alloc (.cells #[.string a, .string b] 23 (0, 0)) = w0 at *
  obtain ⟨ka, kb, kc⟩ := two_facts hx
  refine (hsz _).mono ?_; rintro e w1 ⟨rfl, hb1⟩
  have hbw1 := nx hb0 hb1
  replace hx := heap_keep hb1 hx
  clear ka kb kc
  obtain ⟨ka, kb, kc⟩ := two_facts hx
  go_wp2_with fail
  refine (toPair_any a b _).mono ?_; rintro e w2 ⟨rfl, hb2⟩
  have hbw2 := nx hbw1 hb2
  replace hx := heap_keep hb2 hx
  clear ka kb kc
  obtain ⟨ka, kb, kc⟩ := two_facts hx
  go_wp2_with fail
  refine (hS' _).mono ?_; rintro e w3 ⟨v0, own0, hb3, rfl⟩
  have hbw3 := nx hbw2 hb3
  replace hx := heap_keep hb3 hx
  clear ka kb kc
  obtain ⟨ka, kb, kc⟩ := two_facts hx
  go_wp2_with fail
  refine (toPair_any a b _).mono ?_; rintro e w4 ⟨rfl, hb4⟩
  have hbw4 := nx hbw3 hb4
  replace hx := heap_keep hb4 hx
  clear ka kb kc
  obtain ⟨ka, kb, kc⟩ := two_facts hx
  replace own0 := own0.keep hb4
  go_wp2_with fail
  have own04 := own0
  have hx4 := hx
  refine (hI' _ (hT.keep hbw4)).mono ?_; rintro e w5 ⟨v1, own1, hb5, rfl⟩
  have hbw5 := nx hbw4 hb5
  replace hx := heap_keep hb5 hx
  clear ka kb kc
  obtain ⟨ka, kb, kc⟩ := two_facts hx
  replace own0 := own0.keep hb5
  go_wp2_with fail
  refine (eqIntS_any _ _ v1 v0 xs _ own1.cells own0.cells).mono ?_; rintro e w6 ⟨rfl, n6, hw6⟩
  have hb6 : Below w5.heap.size w5 w6 := by rw [hw6]; exact drewB (Below.refl _ _) n6
  clear hw6
  have hbw6 := nx hbw5 hb6
  replace hx := heap_keep hb6 hx
  clear ka kb kc
  obtain ⟨ka, kb, kc⟩ := two_facts hx
  replace own0 := own0.keep hb6
  replace own1 := own1.keep hb6
  go_wp2_with fail
  refine (markIntS_any w4.heap.size v1 xs xs.length rfl 1 _ (by omega) (by omega) hn9 own1).mono ?_; rintro e w7 ⟨rfl, own7, hb7⟩
  have hb47 : Below w4.heap.size w4 w7 := (hb5.trans (hb6.mono hb5.size)).trans hb7
  have hbw7 := nx hbw4 hb47
  clear own0 own1
  have own0 := own04.keep hb47
  clear hx ka kb kc
  have hx := heap_keep hb47 hx4
  clear hx4
  obtain ⟨ka, kb, kc⟩ := two_facts hx
  clear own04 hb47 hb7
  go_wp2_with fail
  refine (heldIntS_any w4.heap.size v1 xs.length 1 _ (by omega) (by omega) hn9 own7.cells).mono ?_; rintro e w8 ⟨rfl, n8, hw8⟩
  have hb8 : Below w7.heap.size w7 w8 := by rw [hw8]; exact drewB (Below.refl _ _) n8
  clear hw8
  have hbw8 := nx hbw7 hb8
  replace hx := heap_keep hb8 hx
  clear ka kb kc
  obtain ⟨ka, kb, kc⟩ := two_facts hx
  replace own0 := own0.keep hb8
  replace own7 := own7.keep hb8
  go_wp2_with fail
  refine (toPair_any a b _).mono ?_; rintro e w9 ⟨rfl, hb9⟩
  have hbw9 := nx hbw8 hb9
  replace hx := heap_keep hb9 hx
  clear ka kb kc
  obtain ⟨ka, kb, kc⟩ := two_facts hx
  replace own0 := own0.keep hb9
  replace own7 := own7.keep hb9
  go_wp2_with fail
  refine (hI' _ (hT.keep hbw9)).mono ?_; rintro e w10 ⟨v2, own2, hb10, rfl⟩
  have hbw10 := nx hbw9 hb10
  replace hx := heap_keep hb10 hx
  clear ka kb kc
  obtain ⟨ka, kb, kc⟩ := two_facts hx
  replace own0 := own0.keep hb10
  replace own7 := own7.keep hb10
  go_wp2_with fail
  refine (eqIntS_any _ _ v2 v0 xs _ own2.cells own0.cells).mono ?_; rintro e w11 ⟨rfl, n11, hw11⟩
  have hb11 : Below w10.heap.size w10 w11 := by rw [hw11]; exact drewB (Below.refl _ _) n11
  clear hw11
  have hbw11 := nx hbw10 hb11
  replace hx := heap_keep hb11 hx
  clear ka kb kc
  obtain ⟨ka, kb, kc⟩ := two_facts hx
  replace own7 := own7.keep hb11
  go_wp2_with fail
  refine (heldIntS_any w4.heap.size v1 xs.length 1 _ (by omega) (by omega) hn9 own7.cells).mono ?_; rintro e w12 ⟨rfl, n12, hw12⟩
  have hb12 : Below w11.heap.size w11 w12 := by rw [hw12]; exact drewB (Below.refl _ _) n12
  clear hw12
  have hbw12 := nx hbw11 hb12
  replace hx := heap_keep hb12 hx
  clear ka kb kc
  obtain ⟨ka, kb, kc⟩ := two_facts hx
  go_wp2_with fail
  go_ret
  exact ⟨rfl, hbw12⟩
end Go.Proofs.YtlcepokenaiggaaGreatDoor

/-! TabR -/
namespace Go.Proofs.YtlcepokenaiggaaGreatDoor
open Go.RowKit

def tabRows : List (List Int) := [[0, 2, 2, 1, 1, 3], [2, 2, 2, 1, 1, 3], [2, 2, 2, 1, 3, 3], [1, 1, 1, 2, 2, 2], [1, 1, 3, 2, 2, 4], [3, 3, 3, 2, 4, 4]]
theorem rows_flat (n : Nat) : ∀ (zss : List (List Value)) (cs : List Value), cs.length = zss.length * n → (∀ i z, zss[i]? = some z → (cs.drop (i * n)).take n = z) → cs = zss.flatten := by
  intro zss
  induction zss with
  | nil => intro cs h _; exact List.length_eq_zero_iff.1 (by simpa using h)
  | cons z r ih =>
    intro cs h hz
    have h0 := hz 0 z rfl
    rw [Nat.zero_mul, List.drop_zero] at h0
    have e := ih (cs.drop n) (by rw [List.length_drop, h, List.length_cons, Nat.add_mul]; omega) (fun i y hy => by
      have := hz (i + 1) y (by simpa using hy)
      rw [List.drop_drop, show n + i * n = (i + 1) * n by rw [Nat.add_mul]; omega]
      exact this)
    rw [List.flatten_cons, ← e, ← h0, List.take_append_drop]
theorem cells_of_rows {H : Type} {enc : TypeId × Value → H} {P : Program} {w : World} {base : Nat} {sp : Nat → Bool} {held : Bool} {fuel : Nat} {t e f : TypeId} {m n : Nat} {k : IntKind} {cs : List Value} {zss : List (List Int)} {p : List MemPlace}
    (ht : P.underlying t = some (.array m e)) (he : P.underlying e = some (.array n f)) (hf : P.underlying f = some (.int k)) (hcf : P.cellsOf f = 1) (hce : P.cellsOf e = n) (hct : P.cellsOf t = m * n)
    (h : DataW.trod enc P w base sp held fuel t cs = some (.agg (zss.map fun zs => Lib.tabData k zs), p)) : cs = zss.flatten.map fun z => Value.int k z := by
  cases fuel with
  | zero => simp [DataW.trod] at h
  | succ fuel =>
    simp only [DataW.trod, ht, hce, hct] at h
    split at h
    · rename_i hl
      obtain ⟨xs, hm, hx⟩ := Option.map_eq_some_iff.1 h
      have hxs : xs.map (·.1) = zss.map fun zs => (Lib.tabData k zs : DataW H) := by
        have := congrArg Prod.fst hx
        simpa using this
      have hxl : xs.length = m := by simpa using Lib.mapM_length hm
      have hzl : zss.length = m := by
        have := congrArg List.length hxs
        simp at this
        omega
      have := rows_flat n (zss.map fun zs => zs.map fun z => Value.int k z) cs (by rw [List.length_map, hzl, hl]) (fun i z hz => by
        rw [List.getElem?_map, Option.map_eq_some_iff] at hz
        obtain ⟨zs, hzs, rfl⟩ := hz
        have hi : i < m := by rw [← hzl]; exact (List.getElem?_eq_some_iff.1 hzs).1
        obtain ⟨b, hb, hfb⟩ := Lib.mapM_at hm i i (by simp [hi])
        have h2 : (xs.map (·.1))[i]? = some b.1 := by simp [hb]
        rw [hxs, List.getElem?_map, hzs] at h2
        have h3 : b.1 = Lib.tabData k zs := (Option.some.inj h2).symm
        obtain ⟨b1, b2⟩ := b
        dsimp only at h3
        subst h3
        exact Lib.cells_of_tab he hf hcf hce hfb)
      rw [this, List.map_flatten]
    · cases h
end Go.Proofs.YtlcepokenaiggaaGreatDoor

/-! LFnExactNextLengths -/
namespace Go.Proofs.YtlcepokenaiggaaGreatDoor.fnExactNextLengths
open Go.ChangeShapes Go.WideShapes Go.ChangeAt Go.RowKit
open Go.ChangeMaps (open_string shut_string)
open Go.Joins (open_agg2 shut_agg2)
set_option linter.unusedVariables false

theorem cellsPair : Tryz.prog.cellsOf 23 = 2 := by kernel_rfl
theorem own : ownKnob Tryz.prog.godebug = none := by kernel_rfl
theorem laidOut : laidOutB Tryz.prog = true := by kernel_rfl

theorem rows_at {P : Program} {W : World} {name : String} {k : IntKind} {zss : List (List Int)} {rest : List (String × DataW Unit)} {g : Nat} {t e f : TypeId} {m n : Nat}
    (hg : P.globalNamed name = some g) (hty : (P.globals[g]?).map (·.type) = some t) (ht : P.underlying t = some (.array m e)) (he : P.underlying e = some (.array n f)) (hf : P.underlying f = some (.int k)) (hcf : P.cellsOf f = 1) (hce : P.cellsOf e = n) (hct : P.cellsOf t = m * n)
    (h : laidMet P ((name, .agg (zss.map fun zs => Lib.tabData k zs)) :: rest) W) : Lib.TabIs P W name k zss.flatten := by
  obtain ⟨ps, h0, _⟩ := h
  obtain ⟨g', t', cs, fuel, p, q, hg', ht', hvar, hd, _, _⟩ := h0
  obtain rfl := Option.some.inj (hg.symm.trans hg')
  obtain rfl := Option.some.inj (hty.symm.trans ht')
  unfold Lib.TabIs
  rw [hvar, ← cells_of_rows ht he hf hcf hce hct hd]

set_option maxRecDepth 100000 in
theorem lifted (os : Os) (started : os.Started) (H : Type) (enc : TypeId × Value → H) :
    ReturnsInHanded {} Tryz.checked os 3 .any (fun w args => (Rows.fnExactNextLengthsSpec.pre enc Tryz.prog Tryz.f3 Rows.fnExactNextLengthsRow.domain false w args ∧ laidMetH Tryz.prog Rows.fnExactNextLengthsRow.laid w) ∧ sizedMet enc Tryz.prog Tryz.f3 (OpenSpec.ofChange Rows.fnExactNextLengthsSpec) false w args)
      (Rows.fnExactNextLengthsSpec.post enc Tryz.prog Tryz.f3 false true false false) := by
  refine returnsInHanded_of_change_and (C := Tryz.checked) (X := fun w _ => laidMetH Tryz.prog Rows.fnExactNextLengthsRow.laid w) (fun _ _ _ hh h => h.of_heap hh) own started (by kernel_rfl) Tryz.func3
    (ChangeSpec.witness_shaped (enc := enc) (C := Tryz.checked) (os := os) (X := fun w _ => laidMetH Tryz.prog Rows.fnExactNextLengthsRow.laid w) false (World.laidAll Tryz.prog os Rows.fnExactNextLengthsRow.laid) #[.agg #[.string ByteArray.empty, .string ByteArray.empty]] 8 (World.laidAll_os _ _ _)
      (World.shaped_of_ZipB (by kernel_rfl) (by kernel_rfl)) (by kernel_rfl) (by kernel_rfl) (by kernel_rfl)
      (by rw [MakeChecks.laidMetH_plain _ _ _ (by kernel_rfl)]; exact laidMet_laidAll _ (by kernel_rfl) (by kernel_rfl))) ?_
  intro W base args ds gs before hval0 hW hc _ hL _
  have hval : ∀ (j : Nat) t v, Tryz.f3.params[j]? = some t → args[j]? = some v → Value.okWide Tryz.prog W .any base t v := hval0
  have hW' := hW
  obtain ⟨p, q, hA0, hV, rfl, hfz, hnd⟩ := hW
  have hA : DataW.TrodAll enc Tryz.prog W 0 (fun _ => true) true Tryz.f3.params.toList args.toList ds p := hA0
  rw [Tryz.params3] at hA hval
  obtain ⟨v0, vs0, d0, ds0, p0, q0, hargs, rfl, rfl, h0, r0⟩ := trodAll_cons hA
  obtain ⟨rfl, rfl, rfl⟩ := trodAll_nil r0
  obtain rfl : args = #[v0] := by cases args; simp_all
  obtain ⟨_, _, _, _, _, _, rfl, _, _, _, _, _⟩ := ChangeShapes.trodVars_one hV
  obtain ⟨c0a, c0b, y0a, y0b, m0, rfl, rfl, rfl, hy0a, hy0b⟩ := open_agg2 Tryz.underlying23 (by kernel_rfl) cellsPair (hval 0 23 v0 rfl rfl) h0
  obtain ⟨a0a, e0a, rfl, w0a⟩ := DataW.trod_string Tryz.underlying9 hy0a
  obtain ⟨a0b, e0b, rfl, w0b⟩ := DataW.trod_string Tryz.underlying9 hy0b
  simp at e0a e0b
  subst e0a e0b
  clear hA0 hval0
  simp only [List.append_nil] at hW'
  have hT : TabL W := by
    have hL2 := hL
    rw [MakeChecks.laidMetH_plain _ _ _ (by kernel_rfl)] at hL2
    have h2 := rows_at (g := 0) (t := 88) (e := 87) (f := 3) (m := 6) (n := 6) (k := .i64) (zss := tabRows) (by kernel_rfl) (by kernel_rfl) Tryz.underlying88 Tryz.underlying87 Tryz.underlying3 (by kernel_rfl) (by kernel_rfl) (by kernel_rfl) (show laidMet Tryz.prog (("loop.example/g01161/impl.kindLengths", .agg (tabRows.map fun zs => Lib.tabData .i64 zs)) :: _) W from hL2)
    exact TabL.of h2
  refine (fnExactNextLengths_walk a0a w0a a0b w0b W hT).mono fun e W' ⟨he, bel⟩ => ?_
  subst he
  exact ⟨_, rfl, _, _, _, [], _, _, hW', trodAll_mk1 (shut_bool Tryz.underlying4 _), (trodAll_cons_mk (shut_agg2 (y0 := (.lit (.string a0a.data.toList), [])) (y1 := (.lit (.string a0b.data.toList), [])) Tryz.underlying23 (by kernel_rfl) cellsPair (Go.Deep.shut_string_cell Tryz.underlying9 w0a) (Go.Deep.shut_string_cell Tryz.underlying9 w0b)) trodAll_mk0), Below.trodVars (by kernel_rfl) bel (by kernel_rfl) hV, bel.frame _, fun h => by cases h⟩

theorem over : Rows.fnExactNextLengthsRow.holds Tryz.pinned (OpenSpec.ofChange Rows.fnExactNextLengthsSpec) :=
  OpenClaim.holds_of_wide 3 Tryz.f3 rfl rfl rfl rfl rfl rfl rfl ⟨rfl, rfl, rfl, rfl, rfl⟩ rfl rfl rfl rfl rfl (by kernel_rfl) Tryz.func3 (by kernel_rfl)
    (of_decide_eq_true (by kernel_rfl)) (by unfold Func.isWrapper; first | (rw [if_pos (by decide +kernel)]; kernel_rfl) | (rw [if_neg (by decide +kernel)]; exact ⟨rfl, rfl⟩))
    (fun os started H enc _ => lifted os started H enc)

theorem plain (f : FuncId) (fn : Func) (hf : Tryz.pinned.checked.prog.funcNamed "loop.example/g01161/laws.FnExactNextLengths" = some f) (hfn : Tryz.pinned.checked.prog.funcs[f]? = some fn) :
    Rows.fnExactNextLengthsCard.stood.looks = Tryz.pinned.checked.prog.looks [] ∧ ∀ (j : Nat) t, fn.params[j]? = some t → Tryz.pinned.checked.prog.wantsStandIn t = false := by
  obtain rfl : f = 3 := Option.some.inj ((show Tryz.prog.funcNamed "loop.example/g01161/laws.FnExactNextLengths" = some 3 by kernel_rfl).symm.trans hf) |>.symm
  obtain rfl : fn = Tryz.f3 := (Option.some.inj (Tryz.func3.symm.trans hfn)).symm
  refine ⟨by kernel_rfl, fun j t ht => ?_⟩
  rw [Tryz.params3] at ht
  have hm : t ∈ [23] := by simpa using Array.mem_of_getElem? ht
  have hall : ([23].all fun u => !Tryz.prog.wantsStandIn u) = true := by kernel_rfl
  exact (show Tryz.prog.wantsStandIn t = false by simpa using List.all_eq_true.1 hall t hm)

theorem proved : Rows.FnExactNextLengthsCardSaid :=
  Claim7.holds_tied_plain_at .later [] _ _ _ _ over (fun _ h => by cases h) (by kernel_rfl) (fun _ h => by cases h) fnExactNextLengths_row_tie rfl ⟨rfl, rfl⟩ (by kernel_rfl) rfl plain (by kernel_rfl)
#print axioms proved
end Go.Proofs.YtlcepokenaiggaaGreatDoor.fnExactNextLengths
