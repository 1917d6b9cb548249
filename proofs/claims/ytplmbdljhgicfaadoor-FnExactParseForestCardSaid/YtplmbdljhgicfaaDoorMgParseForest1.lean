/- Texts that the claim needs, part 2. -/
import Derived.Test.YtplmbdljhgicfaaDoorMgParseForest0
import Derived.Lib.SplitLaws
import Derived.Lib.IndexBytes
import Derived.Maps.AppendAt
import Derived.Laws.AppendOwnNone
import Derived.IntWalk
import Derived.RangeFuncBox
import Derived.RangeFuncLeaves
import Derived.Shelf.Abstract
import Derived.WalkKit
import Derived.OwnWalkIn
import Derived.TacticsInMore
import Derived.LoopNIn
import Derived.LoopIn
import Derived.RangeFuncNested
import Derived.Deep.RegionWith
import Derived.Deep.RegionHeld3
import Derived.OwnWalk
/-! WayQ -/
namespace Go.Proofs.YtplmbdljhgicfaaDoor

/-- A left comb. -/
def lcT : Nat → Tr
  | 0 => .lf
  | n + 1 => .nd (lcT n) .lf
theorem lcT_carets (n : Nat) : (lcT n).carets = n := by induction n with | zero => rfl | succ n ih => simp [lcT, Tr.carets, ih]
theorem lcT_exps (e : Nat) : ∀ x, (lcT e).expN x = (x + e) :: List.replicate e 0 := by
  induction e with
  | zero => intro x; rfl
  | succ e ih => intro x; rw [lcT, Tr.expN, ih, Tr.expN, List.replicate_succ']; simp; omega

theorem expN_graft (u c : Tr) : ∀ (w : Nat) (X Y : List Nat) (x : Nat), u.expN w = X ++ x :: Y → (u.graft (X.length : Int) c).expN w = X ++ (c.expN x ++ Y) := by
  induction u with
  | lf =>
    intro w X Y x h
    rw [Tr.expN] at h
    cases X with
    | nil => simp at h; obtain ⟨rfl, rfl⟩ := h; simp [Tr.graft]
    | cons a X => simp at h
  | nd l r ihl ihr =>
    intro w X Y x h
    have hl := expN_length l (w + 1)
    rw [Tr.expN] at h
    rw [Tr.graft]
    by_cases hc : (X.length : Int) < l.leaves
    · rw [if_pos hc]
      simp only [Tr.leaves] at hc
      have h1 : l.expN (w + 1) = X ++ x :: Y.take (l.carets - X.length) := by
        have h2 := congrArg (List.take (l.carets + 1)) h
        rw [List.take_append_of_le_length (by omega), ← hl, List.take_length, List.take_append, List.take_of_length_le (by omega)] at h2
        rw [h2]
        have : (l.expN (w + 1)).length - X.length = (l.carets - X.length) + 1 := by omega
        rw [this, List.take_succ_cons]
      have h3 : Y = Y.take (l.carets - X.length) ++ r.expN 0 := by
        rw [h1] at h
        simp only [List.append_assoc, List.cons_append] at h
        have h4 := List.append_cancel_left h
        injection h4 with _ h4
        exact h4.symm
      rw [Tr.expN, ihl _ _ _ _ h1]
      rw [List.append_assoc, List.append_assoc, ← h3]
    · rw [if_neg hc]
      simp only [Tr.leaves] at hc
      have h1 : X = l.expN (w + 1) ++ X.drop (l.carets + 1) := by
        have h2 := congrArg (List.take (l.carets + 1)) h
        rw [List.take_append_of_le_length (by omega), ← hl, List.take_length, List.take_append_of_le_length (by omega)] at h2
        rw [h2, hl, List.take_append_drop]
      have h3 : r.expN 0 = X.drop (l.carets + 1) ++ x :: Y := by
        rw [h1] at h
        rw [List.append_assoc] at h
        exact List.append_cancel_left h
      have h4 := ihr _ _ _ _ h3
      have h5 : ((X.drop (l.carets + 1)).length : Int) = (X.length : Int) - l.leaves := by
        rw [List.length_drop]; simp only [Tr.leaves]; omega
      rw [h5] at h4
      rw [Tr.expN, h4]
      rw [← List.append_assoc, ← h1]

/-- The exponents of a list of trees. -/
def expF (s : List Tr) : List Nat := s.flatMap fun t => t.expN 0
theorem expR_sides (t : Tr) : t.expR = expF (sidesT t) ++ [0] := by
  induction t with
  | lf => rfl
  | nd l r _ ihr => rw [Tr.expR, ihr, sidesT]; simp [expF]
def combS (s : List Tr) : Tr := combT s
theorem sides_comb (s : List Tr) : sidesT (combT s) = s := by
  induction s with
  | nil => rfl
  | cons t s ih => rw [combT, sidesT, ih]
theorem expF_app (s u : List Tr) : expF (s ++ u) = expF s ++ expF u := by simp [expF]
theorem expF_one (u : Tr) : expF [u] = u.expN 0 := by simp [expF]

/-- A graft behind the first sides. -/
theorem graft_comb (c : Tr) : ∀ (s : List Tr) (u : Tr) (i : Nat), (combT (s ++ [u])).graft (((expF s).length + i : Nat) : Int) c = if i ≤ u.carets then combT (s ++ [u.graft i c]) else combT (s ++ [u]) |>.graft (((expF s).length + i : Nat) : Int) c := by
  intro s
  induction s with
  | nil =>
    intro u i
    split
    · next h =>
      show (Tr.nd u .lf).graft _ c = Tr.nd (u.graft i c) .lf
      rw [Tr.graft, if_pos (by simp [expF, Tr.leaves]; omega)]
      simp [expF]
    · rfl
  | cons t s ih =>
    intro u i
    split
    · next h =>
      have h1 := ih u i
      rw [if_pos h] at h1
      have h2 : (expF (t :: s)).length = t.carets + 1 + (expF s).length := by
        show (expF ([t] ++ s)).length = _
        rw [expF_app, List.length_append, expF_one, expN_length]
      show (Tr.nd t (combT (s ++ [u]))).graft _ c = Tr.nd t (combT (s ++ [u.graft i c]))
      rw [Tr.graft, if_neg (by rw [h2]; simp only [Tr.leaves]; omega), ← h1]
      congr 2
      rw [h2]; simp only [Tr.leaves]; omega
    · rfl
theorem graft_last (c : Tr) : ∀ s : List Tr, (combT s).graft ((expF s).length : Int) (.nd c .lf) = combT (s ++ [c]) := by
  intro s
  induction s with
  | nil => rfl
  | cons t s ih =>
    have h2 : (expF (t :: s)).length = t.carets + 1 + (expF s).length := by
      show (expF ([t] ++ s)).length = _
      rw [expF_app, List.length_append, expF_one, expN_length]
    show (Tr.nd t (combT s)).graft _ _ = Tr.nd t (combT (s ++ [c]))
    rw [Tr.graft, if_neg (by rw [h2]; simp only [Tr.leaves]; omega), ← ih]
    congr 2
    rw [h2]; simp only [Tr.leaves]; omega

/-- One exponent more. -/
def stepE (t : Tr) (k e : Nat) : Tr := if k = t.carets then t.graft k (.nd (lcT e) .lf) else t.graft k (lcT e)
def foldE : Tr → Nat → List Nat → Tr
  | t, _, [] => t
  | t, k, e :: L => foldE (stepE t k e) (k + 1) L

theorem comb_carets (s : List Tr) : (combT s).carets = (expF s).length := by
  induction s with
  | nil => rfl
  | cons t s ih =>
    show t.carets + (combT s).carets + 1 = (expF ([t] ++ s)).length
    rw [expF_app, List.length_append, expF_one, expN_length, ih]; omega

theorem stepE_carets (t : Tr) (k e : Nat) (h : k ≤ t.carets) : t.carets + e ≤ (stepE t k e).carets ∧ (k = t.carets → (stepE t k e).carets = t.carets + e + 1) ∧ k + 1 ≤ (stepE t k e).carets := by
  unfold stepE
  split
  · next hk =>
    rw [graft_carets t _ k (by omega) (by simp [Tr.leaves]; omega)]
    simp [Tr.carets, lcT_carets]; omega
  · next hk =>
    rw [graft_carets t _ k (by omega) (by simp [Tr.leaves]; omega)]
    simp [lcT_carets]; omega

/-- What holds of the tree made of the exponents A. -/
def InvE (A : List Nat) (t : Tr) : Prop :=
  (A = [] ∧ t = .lf) ∨ ∃ s u j, t = combT (s ++ [u]) ∧ (expF s).length < A.length ∧ expF (s ++ [u]) = A ++ List.replicate j 0

theorem invE_carets {A : List Nat} {t : Tr} (h : InvE A t) : A.length ≤ t.carets := by
  rcases h with ⟨rfl, rfl⟩ | ⟨s, u, j, rfl, _, h2⟩
  · exact Nat.le_refl _
  · rw [comb_carets, h2]; simp

theorem invE_step {A : List Nat} {t : Tr} (h : InvE A t) (e : Nat) : InvE (A ++ [e]) (stepE t A.length e) := by
  rcases h with ⟨rfl, rfl⟩ | ⟨s, u, j, rfl, h1, h2⟩
  · refine .inr ⟨[], lcT e, e, rfl, by simp [expF], ?_⟩
    rw [List.nil_append, expF_one, lcT_exps]; simp
  · have hc : (combT (s ++ [u])).carets = A.length + j := by rw [comb_carets, h2]; simp
    unfold stepE
    by_cases hj : j = 0
    · subst hj
      rw [if_pos (by omega)]
      have hl : (expF (s ++ [u])).length = A.length := by rw [h2]; simp
      have := graft_last (lcT e) (s ++ [u])
      rw [hl] at this
      rw [this]
      refine .inr ⟨s ++ [u], lcT e, e, rfl, by rw [hl]; simp, ?_⟩
      rw [expF_app, h2, expF_one, lcT_exps]; simp
    · rw [if_neg (by omega)]
      obtain ⟨i, hi⟩ : ∃ i, A.length = (expF s).length + i := ⟨A.length - (expF s).length, by omega⟩
      have hu : u.carets + 1 + (expF s).length = A.length + j := by
        have := congrArg List.length h2
        rw [expF_app, expF_one] at this
        simp [expN_length] at this; omega
      have hg := graft_comb (lcT e) s u i
      rw [if_pos (by omega), ← hi] at hg
      rw [hg]
      have hx : u.expN 0 = A.drop (expF s).length ++ 0 :: List.replicate (j - 1) 0 := by
        have h3 := congrArg (List.drop (expF s).length) h2
        rw [expF_app, expF_one, List.drop_left, List.drop_append_of_le_length (by omega)] at h3
        rw [h3, ← List.replicate_succ]
        congr 2; omega
      have hs : expF s = A.take (expF s).length := by
        have h3 := congrArg (List.take (expF s).length) h2
        rw [expF_app, List.take_left, List.take_append_of_le_length (by omega)] at h3
        exact h3
      have hgr := expN_graft u (lcT e) 0 _ _ _ hx
      have hlen : ((A.drop (expF s).length).length : Int) = (i : Int) := by rw [List.length_drop]; omega
      rw [hlen, lcT_exps] at hgr
      refine .inr ⟨s, u.graft i (lcT e), e + (j - 1), rfl, by simp; omega, ?_⟩
      rw [expF_app, expF_one, hgr, hs]
      simp only [List.length_take]
      rw [Nat.min_eq_left (by omega), ← List.append_assoc, List.take_append_drop]
      simp [List.replicate_append_replicate]

theorem invE_all : ∀ (L A : List Nat) (t : Tr), InvE A t → InvE (A ++ L) (foldE t A.length L) := by
  intro L
  induction L with
  | nil => intro A t h; simpa [foldE] using h
  | cons e L ih =>
    intro A t h
    have h1 := ih (A ++ [e]) _ (invE_step h e)
    rw [List.length_append, List.append_assoc] at h1
    exact h1

theorem invE_end {A : List Nat} {t : Tr} (h : InvE A t) (ha : ∀ B, A ≠ B ++ [0]) : treeE A = t := by
  rcases h with ⟨rfl, rfl⟩ | ⟨s, u, j, rfl, h1, h2⟩
  · exact treeE_of [] .lf 1 rfl (.inl rfl)
  · refine treeE_of A _ (j + 1) ?_ (.inr ⟨s, u, sides_comb _, ?_⟩)
    · rw [expR_sides, sides_comb, h2, List.replicate_succ']; simp
    · cases u with
      | nd l r => rfl
      | lf =>
        exfalso
        rw [expF_app] at h2
        have hl := congrArg List.length h2
        simp [expF_one, Tr.expN] at hl
        have hj : j = 0 := by omega
        subst hj
        exact ha (expF s) (by rw [expF_one, Tr.expN] at h2; simpa using h2.symm)
theorem foldE_tree (L : List Nat) (ha : ∀ B, L ≠ B ++ [0]) : foldE .lf 0 L = treeE L := by
  have h := invE_all L [] .lf (.inl ⟨rfl, rfl⟩)
  exact (invE_end h ha).symm

end Go.Proofs.YtplmbdljhgicfaaDoor

/-! TeP -/
namespace Go.Proofs.YtplmbdljhgicfaaDoor

theorem joinJ_succ : ∀ (a : Nat) (s : List Tr) (t u : Tr) (r : List Tr), joinJ a s = t :: u :: r → a < s.length → joinJ (a + 1) s = .nd t u :: r := by
  intro a
  induction a with
  | zero => intro s t u r h _; rw [joinJ] at h; rw [h]; rfl
  | succ a ih =>
    intro s t u r h hl
    match s, hl with
    | [], hl => simp at hl
    | [x], hl => simp at hl
    | x :: y :: q, hl =>
      rw [joinJ] at h
      show joinJ (a + 1) (.nd x y :: q) = _
      exact ih _ _ _ _ h (by simp at hl ⊢; omega)
def sumT (s : List Tr) : Nat := (s.map Tr.carets).sum
theorem sumT_cons (t : Tr) (s : List Tr) : sumT (t :: s) = t.carets + sumT s := by simp [sumT]
theorem sumT_app (s u : List Tr) : sumT (s ++ u) = sumT s + sumT u := by simp [sumT]
theorem sumT_lf (n : Nat) : sumT (List.replicate n .lf) = 0 := by
  induction n with
  | zero => rfl
  | succ n ih => rw [List.replicate_succ, sumT_cons, ih]; rfl
theorem sumT_mem {s : List Tr} {t : Tr} (h : t ∈ s) : t.carets ≤ sumT s := by
  induction s with
  | nil => simp at h
  | cons x s ih =>
    rw [sumT_cons]
    rcases List.mem_cons.1 h with rfl | h
    · omega
    · have := ih h; omega
theorem sumT_join : ∀ (a : Nat) (s : List Tr), a < s.length → sumT (joinJ a s) = sumT s + a := by
  intro a
  induction a with
  | zero => intro s _; rfl
  | succ a ih =>
    intro s h
    match s, h with
    | [], h => simp at h
    | [_], h => simp at h
    | x :: y :: q, h =>
      rw [joinJ, ih _ (by simp at h ⊢; omega), sumT_cons, sumT_cons, sumT_cons]
      simp [Tr.carets]; omega
theorem sumT_stack (n : Nat) : ∀ L : List Nat, L.sum ≤ n → sumT (stackD n L) = L.sum := by
  intro L
  induction L with
  | nil => intro _; exact sumT_lf n
  | cons e L ih =>
    intro h
    rw [List.sum_cons] at h
    have hl := stackD_length n L (by omega)
    rw [stackD, sumT_join _ _ (by simp; omega), sumT_cons, ih (by omega), List.sum_cons]
    simp [Tr.carets]; omega
theorem foldE_carets : ∀ (L A : List Nat) (t : Tr), InvE A t → t.carets ≤ (foldE t A.length L).carets := by
  intro L
  induction L with
  | nil => intro A t _; exact Nat.le_refl _
  | cons e L ih =>
    intro A t h
    have h1 := ih (A ++ [e]) _ (invE_step h e)
    rw [List.length_append] at h1
    have h2 := (stepE_carets t A.length e (invE_carets h)).1
    show _ ≤ (foldE (stepE t A.length e) (A.length + 1) L).carets
    rw [show A.length + [e].length = A.length + 1 from rfl] at h1
    omega
theorem stripT_take {s : List Tr} {n : Nat} {t : Tr} (h : s[n]? = some t) (ht : t.isLf = true) : stripT (s.take (n + 1)) = stripT (s.take n) := by
  obtain ⟨hn, rfl⟩ := List.getElem?_eq_some_iff.1 h
  rw [List.take_succ_eq_append_getElem hn]
  have := (isLf_iff _).1 ht
  rw [this]
  exact stripT_lf (s.take n) 1
theorem stripT_stop {s : List Tr} {n : Nat} {t : Tr} (h : s[n]? = some t) (ht : t.isLf = false) : stripT (s.take (n + 1)) = s.take (n + 1) := by
  obtain ⟨hn, rfl⟩ := List.getElem?_eq_some_iff.1 h
  rw [List.take_succ_eq_append_getElem hn]
  exact stripT_last _ _ ht

/-- Is a list one of exponents? -/
def exOk (L : List Int) : Bool := decide (L.length ≤ 9) && (L.all (fun x => decide (0 ≤ x) && decide (x ≤ 8)) && !(L.getLast? == some 0))
theorem exOk_iff {L : List Int} : exOk L = true ↔ L.length ≤ 9 ∧ (∀ x ∈ L, 0 ≤ x ∧ x ≤ 8) ∧ L.getLast? ≠ some 0 := by simp [exOk]
def toN (L : List Int) : List Nat := L.map Int.toNat
theorem toN_length (L : List Int) : (toN L).length = L.length := by simp [toN]
theorem toN_sum {L : List Int} (h : ∀ x ∈ L, 0 ≤ x ∧ x ≤ 8) : (toN L).sum ≤ 8 * L.length := by
  induction L with
  | nil => simp [toN]
  | cons x L ih =>
    have h1 := h x (by simp)
    have h2 := ih (fun y hy => h y (by simp [hy]))
    have h3 : (toN (x :: L)).sum = x.toNat + (toN L).sum := by simp [toN]
    rw [h3, List.length_cons]; omega
theorem toN_end {L : List Int} (h : L.getLast? ≠ some 0) (hp : ∀ x ∈ L, 0 ≤ x ∧ x ≤ 8) : ∀ B, toN L ≠ B ++ [0] := by
  intro B hB
  apply h
  have h1 := congrArg List.getLast? hB
  rw [List.getLast?_append] at h1
  simp only [toN, List.getLast?_map, List.getLast?_singleton, Option.or] at h1
  cases hl : L.getLast? with
  | none => rw [hl] at h1; simp at h1
  | some x =>
    rw [hl] at h1
    simp only [Option.map_some, Option.some.injEq] at h1
    have := hp x (List.mem_of_getLast? hl)
    congr 1; omega
end Go.Proofs.YtplmbdljhgicfaaDoor

/-! FfP -/
namespace Go.Proofs.YtplmbdljhgicfaaDoor

/-- The trees of a list of texts, if all are trees of at most eight carets. -/
def treesOf : List ByteArray → Option (List Tr)
  | [] => some []
  | s :: L =>
    match treeOf s with
    | none => none
    | some t =>
      match treesOf L with
      | none => none
      | some us => some (t :: us)

theorem treesOf_some : ∀ (L : List ByteArray) (us : List Tr), treesOf L = some us → L = us.map Tr.str ∧ ∀ u ∈ us, u.carets ≤ 8 := by
  intro L
  induction L with
  | nil => intro us h; simp [treesOf] at h; subst h; simp
  | cons s L ih =>
    intro us h
    rw [treesOf] at h
    cases hs : treeOf s with
    | none => rw [hs] at h; cases h
    | some t =>
      rw [hs] at h
      cases hL : treesOf L with
      | none => rw [hL] at h; cases h
      | some vs =>
        rw [hL] at h
        injection h with h
        subst h
        obtain ⟨h1, h2⟩ := ih vs hL
        obtain ⟨h3, h4⟩ := treeOf_some hs
        refine ⟨by rw [h3, h1]; rfl, ?_⟩
        intro u hu
        rcases List.mem_cons.1 hu with rfl | hu
        · exact h4
        · exact h2 u hu
theorem treesOf_map (us : List Tr) (h : ∀ u ∈ us, u.carets ≤ 8) : treesOf (us.map Tr.str) = some us := by
  induction us with
  | nil => rfl
  | cons u us ih =>
    rw [List.map_cons, treesOf, treeOf_str u (h u (by simp)), ih (fun v hv => h v (by simp [hv]))]
theorem treesOf_none : ∀ (L : List ByteArray), treesOf L = none → ∃ k, k < L.length ∧ treeOf (L.getD k ⟨#[]⟩) = none ∧ ∃ us, treesOf (L.take k) = some us := by
  intro L
  induction L with
  | nil => intro h; cases h
  | cons s L ih =>
    intro h
    rw [treesOf] at h
    cases hs : treeOf s with
    | none => exact ⟨0, by simp, by simpa using hs, [], rfl⟩
    | some t =>
      rw [hs] at h
      cases hL : treesOf L with
      | some vs => rw [hL] at h; cases h
      | none =>
        obtain ⟨k, h1, h2, us, h3⟩ := ih hL
        exact ⟨k + 1, by simp; omega, by simpa using h2, t :: us, by rw [List.take_succ_cons, treesOf, hs, h3]⟩

/-- The last tree is no leaf. -/
def lastB (us : List Tr) : Bool := match us.getLast? with | none => true | some u => !u.isLf
/-- A forest. -/
def okF (us : List Tr) : Bool := decide (us.length ≤ 8) && (decide (sumT us ≤ 8) && lastB us)
theorem okF_iff {us : List Tr} : okF us = true ↔ us.length ≤ 8 ∧ sumT us ≤ 8 ∧ lastB us = true := by simp [okF]
def forOf (L : List ByteArray) : Option (List Tr) := (treesOf L).bind fun us => if okF us = true then some us else none
theorem forOf_some {L : List ByteArray} {us : List Tr} (h : forOf L = some us) : L = us.map Tr.str ∧ us.length ≤ 8 ∧ sumT us ≤ 8 ∧ lastB us = true := by
  unfold forOf at h
  cases hL : treesOf L with
  | none => rw [hL] at h; cases h
  | some vs =>
    rw [hL] at h
    simp only [Option.bind_some] at h
    split at h
    · next ho => injection h with h; subst h; exact ⟨(treesOf_some L _ hL).1, okF_iff.1 ho⟩
    · cases h
theorem forOf_map {us : List Tr} (h : okF us = true) : forOf (us.map Tr.str) = some us := by
  have h2 := (okF_iff.1 h).2.1
  unfold forOf
  rw [treesOf_map us (fun u hu => by have := sumT_mem hu; omega)]
  simp [h]

theorem lastB_nil : lastB [] = true := rfl
theorem lastB_cons (u : Tr) {us : List Tr} (h : us ≠ []) : lastB (u :: us) = lastB us := by
  cases us with
  | nil => exact absurd rfl h
  | cons v vs => simp [lastB, List.getLast?_cons_cons]
theorem lastB_one (u : Tr) : lastB [u] = !u.isLf := rfl
theorem lastB_strip (us : List Tr) : lastB us = true ↔ stripT us = us := by
  rcases List.eq_nil_or_concat us with rfl | ⟨init, x, rfl⟩
  · simp [lastB, stripT]
  · rw [List.concat_eq_append]
    cases hx : x.isLf with
    | false => rw [stripT_last _ _ hx]; simp [lastB, hx]
    | true =>
      obtain rfl := (isLf_iff x).1 hx
      have h1 := stripT_lf init 1
      rw [show List.replicate 1 Tr.lf = [Tr.lf] from rfl] at h1
      rw [h1]
      constructor
      · intro h; simp [lastB, Tr.isLf] at h
      · intro h
        have h2 : (stripT init).length ≤ init.length := by
          unfold stripT
          rw [List.length_reverse]
          exact Nat.le_trans (List.Sublist.length_le (List.dropWhile_sublist _)) (by simp)
        have := congrArg List.length h
        simp at this
        omega
theorem stripT_length (us : List Tr) : (stripT us).length ≤ us.length := by
  unfold stripT
  rw [List.length_reverse]
  exact Nat.le_trans (List.Sublist.length_le (List.dropWhile_sublist _)) (by simp)
theorem dropLf_last (l : List Tr) : lastB ((l.dropWhile Tr.isLf).reverse) = true := by
  induction l with
  | nil => rfl
  | cons x l ih =>
    cases hx : x.isLf with
    | true => rw [List.dropWhile_cons_of_pos hx]; exact ih
    | false => rw [List.dropWhile_cons_of_neg (by rw [hx]; decide)]; simp [lastB, hx]
theorem stripT_lastB (us : List Tr) : lastB (stripT us) = true := dropLf_last us.reverse
theorem stripT_stripT (us : List Tr) : stripT (stripT us) = stripT us := (lastB_strip _).1 (stripT_lastB us)
theorem sumT_rev (us : List Tr) : sumT us.reverse = sumT us := by
  induction us with
  | nil => rfl
  | cons u us ih => rw [List.reverse_cons, sumT_app, ih, sumT_cons]; simp [sumT]; omega
theorem sumT_dropLf (l : List Tr) : sumT (l.dropWhile Tr.isLf) = sumT l := by
  induction l with
  | nil => rfl
  | cons x l ih =>
    cases hx : x.isLf with
    | true =>
      obtain rfl := (isLf_iff x).1 hx
      rw [List.dropWhile_cons_of_pos rfl, ih, sumT_cons]; simp [Tr.carets]
    | false => rw [List.dropWhile_cons_of_neg (by rw [hx]; decide)]
theorem sumT_strip (us : List Tr) : sumT (stripT us) = sumT us := by
  unfold stripT
  rw [sumT_rev, sumT_dropLf, sumT_rev]

theorem sides_sum (t : Tr) : sumT (sidesT t) + (sidesT t).length = t.carets := by
  induction t with
  | lf => rfl
  | nd l r _ ihr => rw [sidesT, sumT_cons, List.length_cons, Tr.carets]; omega
/-- What hangs at the left sides of the right side. -/
def hangT (t : Tr) : List Tr := stripT (sidesT t)
theorem hang_ok {t : Tr} (h : t.carets ≤ 8) : okF (hangT t) = true := by
  have h1 := sides_sum t
  have h2 := stripT_length (sidesT t)
  have h3 := sumT_strip (sidesT t)
  rw [okF_iff]
  unfold hangT
  exact ⟨by omega, by omega, stripT_lastB _⟩

/-- Each tree of the first list is part of that of the second one. -/
def partF : List Tr → List Tr → Bool
  | [], _ => true
  | u :: us, [] => u.isLf && partF us []
  | u :: us, v :: vs => u.part v && partF us vs
theorem partF_nil (us : List Tr) (h : lastB us = true) (hn : us ≠ []) : partF us [] = false := by
  induction us with
  | nil => exact absurd rfl hn
  | cons u us ih =>
    rw [partF]
    by_cases hu : us = []
    · subst hu
      rw [lastB_one] at h
      cases hx : u.isLf with
      | true => rw [hx] at h; cases h
      | false => rfl
    · rw [lastB_cons u hu] at h
      rw [ih h hu, Bool.and_false]
theorem part_comb (us : List Tr) : ∀ vs : List Tr, lastB us = true → (combT us).part (combT vs) = partF us vs := by
  induction us with
  | nil => intro vs _; cases vs <;> rfl
  | cons u us ih =>
    intro vs h
    cases vs with
    | nil => rw [partF_nil _ h (by simp)]; rfl
    | cons v vs =>
      show (u.part v && (combT us).part (combT vs)) = (u.part v && partF us vs)
      by_cases hu : us = []
      · subst hu; rw [ih vs rfl]
      · rw [lastB_cons u hu] at h; rw [ih vs h]
theorem part_iff_join (a : Tr) : ∀ b : Tr, a.part b = true ↔ a.join b = b := by
  induction a with
  | lf => intro b; simp [Tr.part, Tr.join]
  | nd l r ihl ihr =>
    intro b
    cases b with
    | lf => simp [Tr.part, Tr.join]
    | nd p q => simp [Tr.part, Tr.join, ihl, ihr]
def atF (us : List Tr) (k : Nat) : Tr := us.getD k .lf
theorem part_lf (u : Tr) : u.part .lf = u.isLf := by cases u <;> rfl
theorem partF_all (us : List Tr) : ∀ vs : List Tr, partF us vs = true ↔ ∀ k, k < us.length → (us.getD k .lf).part (vs.getD k .lf) = true := by
  induction us with
  | nil => intro vs; simp [partF]
  | cons u us ih =>
    intro vs
    have hsplit : (∀ k, k < (u :: us).length → ((u :: us).getD k .lf).part (vs.getD k .lf) = true) ↔ u.part (vs.getD 0 .lf) = true ∧ ∀ k, k < us.length → (us.getD k .lf).part (vs.tail.getD k .lf) = true := by
      constructor
      · intro h
        refine ⟨by simpa using h 0 (by simp), fun k hk => ?_⟩
        have := h (k + 1) (by simp; omega)
        cases vs <;> simpa using this
      · intro ⟨h0, h1⟩ k hk
        cases k with
        | zero => simpa using h0
        | succ k =>
          have := h1 k (by simp at hk; omega)
          cases vs <;> simpa using this
    rw [hsplit]
    cases vs with
    | nil => rw [partF, Bool.and_eq_true, ih []]; simp [part_lf]
    | cons v vs => rw [partF, Bool.and_eq_true, ih vs]; simp

/-- Joined trees of two lists. -/
def joinF : List Tr → List Tr → List Tr
  | [], vs => vs
  | u :: us, [] => u :: us
  | u :: us, v :: vs => u.join v :: joinF us vs
theorem join_comb (us : List Tr) : ∀ vs : List Tr, (combT us).join (combT vs) = combT (joinF us vs) := by
  induction us with
  | nil => intro vs; rfl
  | cons u us ih =>
    intro vs
    cases vs with
    | nil => rfl
    | cons v vs => show Tr.nd (u.join v) ((combT us).join (combT vs)) = _; rw [ih]; rfl
theorem join_lf (u : Tr) : u.join .lf = u := by cases u <;> rfl
theorem joinF_length (us : List Tr) : ∀ vs : List Tr, (joinF us vs).length = max us.length vs.length := by
  induction us with
  | nil => intro vs; simp [joinF]
  | cons u us ih =>
    intro vs
    cases vs with
    | nil => simp [joinF]
    | cons v vs => simp [joinF, ih]
theorem joinF_get (us : List Tr) : ∀ (vs : List Tr) (k : Nat), (joinF us vs).getD k .lf = (us.getD k .lf).join (vs.getD k .lf) := by
  induction us with
  | nil => intro vs k; simp [joinF, Tr.join]
  | cons u us ih =>
    intro vs k
    cases vs with
    | nil => simp [joinF, join_lf]
    | cons v vs =>
      cases k with
      | zero => simp [joinF]
      | succ k => simpa [joinF] using ih vs k
/-- Common trees of two lists. -/
def comF : List Tr → List Tr → List Tr
  | u :: us, v :: vs => u.com v :: comF us vs
  | _, _ => []
theorem com_comb (us : List Tr) : ∀ vs : List Tr, (combT us).com (combT vs) = combT (comF us vs) := by
  induction us with
  | nil => intro vs; cases vs <;> rfl
  | cons u us ih =>
    intro vs
    cases vs with
    | nil => rfl
    | cons v vs => show Tr.nd (u.com v) ((combT us).com (combT vs)) = _; rw [ih]; rfl
theorem com_lf (u : Tr) : u.com .lf = .lf := by cases u <;> rfl
/-- Common trees of two lists, leaves behind the shorter one. -/
def comL (us vs : List Tr) : List Tr := (List.range (max us.length vs.length)).map fun k => (us.getD k .lf).com (vs.getD k .lf)
def joinL (us vs : List Tr) : List Tr := (List.range (max us.length vs.length)).map fun k => (us.getD k .lf).join (vs.getD k .lf)
theorem joinL_eq (us vs : List Tr) : joinL us vs = joinF us vs := by
  apply List.ext_getElem
  · simp [joinL, joinF_length]
  · intro k h1 h2
    have h3 := joinF_get us vs k
    rw [List.getD_eq_getElem?_getD, List.getElem?_eq_getElem h2, Option.getD_some] at h3
    rw [h3]
    simp [joinL]
theorem comL_cons (u v : Tr) (us vs : List Tr) : comL (u :: us) (v :: vs) = u.com v :: comL us vs := by
  unfold comL
  rw [show max (u :: us).length (v :: vs).length = max us.length vs.length + 1 by simp, List.range_succ_eq_map]
  simp
theorem comL_nil1 (vs : List Tr) : comL [] vs = List.replicate vs.length .lf := by
  unfold comL
  apply List.ext_getElem
  · simp
  · intro k h1 h2; simp [Tr.com]
theorem comL_nil2 (us : List Tr) : comL us [] = List.replicate us.length .lf := by
  unfold comL
  apply List.ext_getElem
  · simp
  · intro k h1 h2; simp [com_lf]
theorem comL_eq (us : List Tr) : ∀ vs : List Tr, ∃ m, comL us vs = comF us vs ++ List.replicate m .lf := by
  induction us with
  | nil => intro vs; exact ⟨vs.length, by rw [comL_nil1]; simp [comF]⟩
  | cons u us ih =>
    intro vs
    cases vs with
    | nil => exact ⟨(u :: us).length, by rw [comL_nil2]; simp [comF]⟩
    | cons v vs => obtain ⟨m, hm⟩ := ih vs; exact ⟨m, by rw [comL_cons, hm]; rfl⟩
theorem comL_strip (us vs : List Tr) : stripT (comL us vs) = stripT (comF us vs) := by
  obtain ⟨m, hm⟩ := comL_eq us vs
  rw [hm, stripT_lf]
theorem comF_length (us : List Tr) : ∀ vs : List Tr, (comF us vs).length ≤ us.length := by
  induction us with
  | nil => intro vs; simp [comF]
  | cons u us ih =>
    intro vs
    cases vs with
    | nil => simp [comF]
    | cons v vs => have := ih vs; simp [comF]; omega
theorem comF_sum (us : List Tr) : ∀ vs : List Tr, sumT (comF us vs) ≤ sumT us := by
  induction us with
  | nil => intro vs; simp [comF, sumT]
  | cons u us ih =>
    intro vs
    cases vs with
    | nil => simp [comF, sumT]
    | cons v vs => have := ih vs; have := com_carets u v; rw [comF, sumT_cons, sumT_cons]; omega
theorem joinF_sum (us : List Tr) : ∀ vs : List Tr, sumT (joinF us vs) ≤ sumT us + sumT vs := by
  induction us with
  | nil => intro vs; simp [joinF, sumT]
  | cons u us ih =>
    intro vs
    cases vs with
    | nil => simp [joinF, sumT]
    | cons v vs => have := ih vs; have := join_carets u v; rw [joinF, sumT_cons, sumT_cons, sumT_cons]; omega
theorem join_lf_iff (u v : Tr) : (u.join v).isLf = (u.isLf && v.isLf) := by cases u <;> cases v <;> rfl
theorem joinF_last (us : List Tr) : ∀ vs : List Tr, lastB us = true → lastB vs = true → lastB (joinF us vs) = true := by
  induction us with
  | nil => intro vs _ h; exact h
  | cons u us ih =>
    intro vs h k
    cases vs with
    | nil => exact h
    | cons v vs =>
      rw [joinF]
      by_cases hu : us = []
      · subst hu
        rw [joinF]
        by_cases hv : vs = []
        · subst hv
          rw [lastB_one] at h k ⊢
          rw [join_lf_iff]
          cases h1 : u.isLf with
          | true => rw [h1] at h; cases h
          | false => rfl
        · rw [lastB_cons _ hv] at k ⊢; exact k
      · rw [lastB_cons _ hu] at h
        by_cases hv : vs = []
        · subst hv
          have e : joinF us [] = us := by cases us <;> rfl
          rw [e, lastB_cons _ hu]; exact h
        · rw [lastB_cons _ hv] at k
          have hne : joinF us vs ≠ [] := by
            intro e
            have := joinF_length us vs
            rw [e] at this
            have h2 : 0 < us.length := List.length_pos_iff.2 hu
            simp at this
            omega
          rw [lastB_cons _ hne]
          exact ih vs h k
end Go.Proofs.YtplmbdljhgicfaaDoor

/-! FfS -/
namespace Go.Proofs.YtplmbdljhgicfaaDoor
open Go.Lib

def gluL (x : List UInt8) : List (List UInt8) → List (List UInt8)
  | [] => [x]
  | p :: ps => (x ++ p) :: ps
def spl : List UInt8 → List (List UInt8)
  | [] => [[]]
  | c :: l => if c = 32 then [] :: spl l else gluL [c] (spl l)
theorem spl_ne (l : List UInt8) : spl l ≠ [] := by
  cases l with
  | nil => simp [spl]
  | cons c l =>
    unfold spl
    split
    · simp
    · unfold gluL; split <;> simp
theorem gluL_nil {ps : List (List UInt8)} (h : ps ≠ []) : gluL [] ps = ps := by
  cases ps with
  | nil => exact absurd rfl h
  | cons p ps => rfl
theorem gluL_glu (x y : List UInt8) (ps : List (List UInt8)) : gluL x (gluL y ps) = gluL (x ++ y) ps := by
  cases ps <;> simp [gluL]
def totL (ps : List (List UInt8)) : Nat := (ps.map List.length).sum
theorem totL_glu (x : List UInt8) (ps : List (List UInt8)) : totL (gluL x ps) = x.length + totL ps := by
  cases ps <;> simp [gluL, totL]; omega
theorem gluL_len (x : List UInt8) {ps : List (List UInt8)} (h : ps ≠ []) : (gluL x ps).length = ps.length := by
  cases ps with
  | nil => exact absurd rfl h
  | cons p ps => rfl
theorem spl_tot (l : List UInt8) : totL (spl l) + (spl l).length = l.length + 1 := by
  induction l with
  | nil => rfl
  | cons c l ih =>
    unfold spl
    split
    · show 0 + totL (spl l) + ((spl l).length + 1) = _
      simp; omega
    · rw [totL_glu, gluL_len _ (spl_ne l)]
      simp; omega

theorem splitK_spl : ∀ l : List UInt8, splitK [32] 0 (l.count 32) l = spl l
  | [] => rfl
  | c :: l => by
    have ih := splitK_spl l
    unfold spl
    by_cases h : c = 32
    · subst h
      have hix : index (32 :: l) [32] = 0 := by rw [index]; simp [List.isPrefixOf]
      rw [if_pos rfl, List.count_cons_self, splitK, hix, if_neg (by decide), ← ih]
      rfl
    · rw [if_neg h, List.count_cons_of_ne (by simpa using h), ← ih]
      cases hk : l.count 32 with
      | zero => rfl
      | succ k =>
        have hp : ([32] : List UInt8).isPrefixOf (c :: l) = false := by simp [List.isPrefixOf, Ne.symm h]
        have hix : index (c :: l) [32] = if index l [32] == -1 then -1 else index l [32] + 1 := by rw [index, hp]; simp
        have hge := index_ge l [32]
        have hm : index l [32] ≠ -1 := by
          intro e
          have h1 := count_miss e
          rw [count_one] at h1
          omega
        obtain ⟨j, hj⟩ : ∃ j : Nat, index l [32] = j := ⟨(index l [32]).toNat, by omega⟩
        rw [splitK, splitK, hix, hj]
        have e1 : ((j : Int) == -1) = false := by rw [beq_eq_false_iff_ne]; omega
        rw [e1]
        have e2 : (((j : Int) + 1) == -1) = false := by rw [beq_eq_false_iff_ne]; omega
        simp only [Bool.false_eq_true, if_false, e2]
        have e3 : ((j : Int) + 1).toNat = j + 1 := by omega
        rw [e3, Int.toNat_natCast]
        simp [gluL]

/-- The pieces of a text between the bytes 32, from an index on (fuel: what is left). -/
def pc32 (s : ByteArray) : Nat → Nat → Nat → List ByteArray
  | 0, a, _ => [s.extract a s.size]
  | k + 1, a, i => if s.data.toList[i]? = some 32 then s.extract a i :: pc32 s k (i + 1) (i + 1) else pc32 s k a (i + 1)
theorem extr_list (s : ByteArray) (a b : Nat) : (s.extract a b).data.toList = (s.data.toList.drop a).take (b - a) := by
  rw [extract_data]
theorem pc32_spl (s : ByteArray) : ∀ k a i, k + i = s.size → a ≤ i → (pc32 s k a i).map (·.data.toList) = gluL ((s.data.toList.drop a).take (i - a)) (spl (s.data.toList.drop i))
  | 0, a, i, hk, ha => by
    have hi : i = s.data.toList.length := by rw [← size_eq]; omega
    rw [pc32, List.map_cons, List.map_nil, extr_list, size_eq, List.drop_of_length_le (i := i) (by omega), ← hi]
    simp [spl, gluL]
  | k + 1, a, i, hk, ha => by
    have hi : i < s.data.toList.length := by rw [← size_eq]; omega
    obtain ⟨c, hc⟩ : ∃ c, c = s.data.toList[i] := ⟨_, rfl⟩
    have hd : s.data.toList.drop i = c :: s.data.toList.drop (i + 1) := by rw [hc]; exact List.drop_eq_getElem_cons hi
    have hg : s.data.toList[i]? = some c := by rw [hc]; exact List.getElem?_eq_getElem hi
    rw [pc32, hg, hd, spl]
    by_cases h : c = 32
    · rw [if_pos (by rw [h]), if_pos h, List.map_cons, pc32_spl s k (i + 1) (i + 1) (by omega) (Nat.le_refl _), extr_list, Nat.sub_self, List.take_zero, gluL_nil (spl_ne _)]
      simp [gluL]
    · rw [if_neg (by simpa using h), if_neg h, pc32_spl s k a (i + 1) (by omega) (by omega), gluL_glu]
      congr 1
      have e : i + 1 - a = (i - a) + 1 := by omega
      rw [e, List.take_succ_eq_append_getElem (by simp; omega)]
      congr 1
      simp only [List.getElem_drop, hc]
      congr 2
      omega
def piecesB (s : ByteArray) : List ByteArray := pc32 s s.size 0 0
theorem pieces_spl (s : ByteArray) : (piecesB s).map (·.data.toList) = spl s.data.toList := by
  unfold piecesB
  rw [pc32_spl s s.size 0 0 (by omega) (Nat.le_refl _)]
  simp [gluL_nil (spl_ne _)]
theorem mapList_inj : ∀ (a c : List ByteArray), a.map (·.data.toList) = c.map (·.data.toList) → a = c := by
  intro a
  induction a with
  | nil => intro c h; cases c with | nil => rfl | cons x c => cases h
  | cons x a ih =>
    intro c h
    cases c with
    | nil => cases h
    | cons y c =>
      rw [List.map_cons, List.map_cons] at h
      injection h with h1 h2
      rw [ih c h2]
      congr 1
      exact ByteArray.ext (Array.toList_inj.1 h1)
theorem splitB_pieces (s : ByteArray) : splitB ⟨#[32]⟩ 0 (countB s ⟨#[32]⟩) s = piecesB s := by
  apply mapList_inj
  rw [splitB_data, pieces_spl]
  show splitK [32] 0 (count s.data.toList [32]) _ = _
  rw [count_one, splitK_spl]
theorem pieces_len (s : ByteArray) : (piecesB s).length = countB s ⟨#[32]⟩ + 1 := by
  rw [← splitB_pieces]; exact splitB_all _ (by decide) 0 _ s rfl
theorem pieces_tot (s : ByteArray) : totL ((piecesB s).map (·.data.toList)) + (piecesB s).length = s.size + 1 := by
  have h := spl_tot s.data.toList
  rw [← pieces_spl, List.length_map, ← size_eq] at h
  exact h
theorem tot_mem {ps : List (List UInt8)} {x : List UInt8} (h : x ∈ ps) : x.length ≤ totL ps := by
  induction ps with
  | nil => cases h
  | cons p ps ih =>
    show _ ≤ p.length + totL ps
    rcases List.mem_cons.1 h with rfl | h
    · omega
    · have := ih h; omega
theorem pieces_mem {s x : ByteArray} (h : x ∈ piecesB s) : x.size ≤ s.size := by
  have h1 := pieces_tot s
  have h2 := tot_mem (List.mem_map.2 ⟨x, h, rfl⟩ : x.data.toList ∈ (piecesB s).map (·.data.toList))
  rw [← size_eq] at h2
  have h3 := pieces_len s
  omega
theorem tot_strs (us : List Tr) : totL ((us.map Tr.str).map (·.data.toList)) = 3 * sumT us + us.length := by
  induction us with
  | nil => rfl
  | cons u us ih =>
    have h := u.str_size
    rw [size_eq] at h
    show u.str.data.toList.length + totL ((us.map Tr.str).map (·.data.toList)) = 3 * (u.carets + sumT us) + (us.length + 1)
    omega
theorem forest_short {s : ByteArray} {us : List Tr} (h : forOf (piecesB s) = some us) : s.size ≤ 39 := by
  obtain ⟨h1, h2, h3, _⟩ := forOf_some h
  have h4 := pieces_tot s
  rw [h1, tot_strs, List.length_map] at h4
  omega

def parF (s : ByteArray) : Option (List ByteArray) := if s.data.toList = [45] then some [] else if (forOf (piecesB s)).isSome then some (piecesB s) else none
theorem parF_len (s : ByteArray) : ((parF s).getD []).length ≤ 8 := by
  unfold parF
  split
  · simp
  · cases h : forOf (piecesB s) with
    | none => simp
    | some us =>
      obtain ⟨h1, h2, _⟩ := forOf_some h
      simp only [Option.isSome_some, if_true, Option.getD_some]
      rw [h1, List.length_map]; exact h2
end Go.Proofs.YtplmbdljhgicfaaDoor

/-! FfR -/
namespace Go.Proofs.YtplmbdljhgicfaaDoor

theorem treesOf_length {L : List ByteArray} {us : List Tr} (h : treesOf L = some us) : us.length = L.length := by
  have := (treesOf_some L us h).1
  rw [this]; simp
theorem treesOf_snoc : ∀ (L : List ByteArray) (us : List Tr) (s : ByteArray) (t : Tr), treesOf L = some us → treeOf s = some t → treesOf (L ++ [s]) = some (us ++ [t]) := by
  intro L
  induction L with
  | nil => intro us s t h k; simp [treesOf] at h; subst h; simp [treesOf, k]
  | cons x L ih =>
    intro us s t h k
    rw [treesOf] at h
    cases hx : treeOf x with
    | none => rw [hx] at h; cases h
    | some y =>
      rw [hx] at h
      cases hL : treesOf L with
      | none => rw [hL] at h; cases h
      | some vs =>
        rw [hL] at h
        injection h with h
        subst h
        rw [List.cons_append, treesOf, hx, ih vs s t hL k]
        rfl
theorem treesOf_bad : ∀ (L : List ByteArray) (s : ByteArray), s ∈ L → treeOf s = none → treesOf L = none := by
  intro L
  induction L with
  | nil => intro s h; cases h
  | cons x L ih =>
    intro s h k
    rw [treesOf]
    rcases List.mem_cons.1 h with rfl | h
    · rw [k]
    · rw [ih s h k]
      cases treeOf x <;> rfl
theorem forOf_bad {L : List ByteArray} {s : ByteArray} (h : s ∈ L) (k : treeOf s = none) : forOf L = none := by
  unfold forOf; rw [treesOf_bad L s h k]; rfl
theorem forOf_long {L : List ByteArray} (h : 8 < L.length) : forOf L = none := by
  cases hf : forOf L with
  | none => rfl
  | some us => obtain ⟨h1, h2, _⟩ := forOf_some hf; rw [h1] at h; simp at h; omega
theorem getD_last {α : Type} (L : List α) (d : α) (h : L ≠ []) : L.getLast? = some (L.getD (L.length - 1) d) := by
  have hp : 0 < L.length := List.length_pos_iff.2 h
  rw [List.getLast?_eq_getElem?, List.getD_eq_getElem?_getD, List.getElem?_eq_getElem (by omega)]
  rfl
theorem lastB_get (us : List Tr) (h : us ≠ []) : lastB us = !(us.getD (us.length - 1) .lf).isLf := by
  unfold lastB; rw [getD_last us .lf h]
theorem str_dot (t : Tr) : (t.str.toList == [46]) = t.isLf := by
  have : t.str.toList = t.text := by rw [Lib.toList_data, Tr.str_list]
  rw [this]
  cases t with
  | lf => rfl
  | nd l r => simp [Tr.text, Tr.isLf]
theorem treeOf_dot : treeOf ⟨#[46]⟩ = some .lf := treeOf_str .lf (by simp [Tr.carets])
theorem map_getD (us : List Tr) (k : Nat) (h : k < us.length) : (us.map Tr.str).getD k ⟨#[]⟩ = (us.getD k .lf).str := by
  simp [List.getD_eq_getElem?_getD, h]
theorem forOf_dot {L : List ByteArray} (h : 0 < L.length) (k : ((L.getD (L.length - 1) ⟨#[]⟩).toList == [46]) = true) : forOf L = none := by
  cases hf : forOf L with
  | none => rfl
  | some us =>
    obtain ⟨h1, _, _, h4⟩ := forOf_some hf
    have hl : us.length = L.length := by rw [h1]; simp
    have hne : us ≠ [] := by intro e; rw [e] at hl; simp at hl; omega
    rw [lastB_get us hne] at h4
    rw [h1, List.length_map, map_getD us _ (by omega), str_dot] at k
    rw [k] at h4
    cases h4
theorem forOf_of {L : List ByteArray} {us : List Tr} (h : treesOf L = some us) (hl : L.length ≤ 8) (k : L.length = 0 ∨ ((L.getD (L.length - 1) ⟨#[]⟩).toList == [46]) = false) : (forOf L).isSome = decide (sumT us ≤ 8) := by
  have hlen := treesOf_length h
  obtain ⟨h1, _⟩ := treesOf_some L us h
  have hlast : lastB us = true := by
    rcases k with k | k
    · have : us = [] := List.length_eq_zero_iff.1 (by omega)
      rw [this]; rfl
    · by_cases hne : us = []
      · rw [hne]; rfl
      · have hp : 0 < us.length := List.length_pos_iff.2 hne
        rw [lastB_get us hne]
        rw [h1, List.length_map, map_getD us _ (by omega), str_dot] at k
        rw [k]; rfl
  unfold forOf
  rw [h]
  simp only [Option.bind_some]
  by_cases hs : sumT us ≤ 8
  · rw [if_pos (okF_iff.2 ⟨by omega, hs, hlast⟩)]; simp [hs]
  · rw [if_neg (fun e => hs (okF_iff.1 e).2.1)]; simp [hs]
theorem forOf_trees {L : List ByteArray} {us : List Tr} (h : treesOf L = some us) : forOf L = if okF us = true then some us else none := by unfold forOf; rw [h]; rfl
end Go.Proofs.YtplmbdljhgicfaaDoor

/-! ArgS -/
namespace Go.Proofs.YtplmbdljhgicfaaDoor
open Go.RowKit

/-- A slice of texts that came in: it is nil, or leads to a row of 'cap' cells, the first 'len' of which are its elements. -/
def IsStrs (w : World) (a : Option Addr) (len cap : Nat) (ss : List ByteArray) : Prop :=
  (a = none ∧ len = 0 ∧ cap = 0 ∧ ss = []) ∨
  ∃ x, a = some x ∧ len ≤ cap ∧ cap ≤ maxLen ∧ ss.length = cap ∧ (∀ i, i < ss.length → w.cell? (x.add i) = some (.string (ss.getD i ByteArray.empty))) ∧ ∀ s ∈ ss, s.size ≤ maxLen

/-- What can be read of a slice of texts: the cells from an address on. -/
def ReadS (w : World) (g off : Nat) (ss : List ByteArray) : Prop := ∀ i, i < ss.length → w.cell? ⟨g, off + i, none⟩ = some (.string (ss.getD i ⟨#[]⟩))

theorem ReadS.keep {w w' : World} {g off : Nat} {ss : List ByteArray} (h : ReadS w g off ss) (hb : Below w.heap.size w w') : ReadS w' g off ss := by
  intro i hi
  have := h i hi
  exact (hb.cell (p := ⟨g, off + i, none⟩) (World.block_lt_of_cell? w _ this)).trans this

/-- The slice as the walks take it: empty, or readable from an address on. -/
def InS (w : World) (a : Option Addr) (ss : List ByteArray) : Prop := ss = [] ∨ ∃ g off, a = some ⟨g, off, none⟩ ∧ ReadS w g off ss

theorem IsStrs.inS {w : World} {a : Option Addr} {len cap : Nat} {ss : List ByteArray} (h : IsStrs w a len cap ss) : InS w a (ss.take len) ∧ (ss.take len).length = len ∧ (len : Int) ≤ 9223372036854775807 ∧ ∀ s ∈ ss.take len, (s.size : Int) ≤ 9223372036854775807 := by
  rcases h with ⟨rfl, rfl, rfl, rfl⟩ | ⟨x, rfl, h1, h2, h3, h4, h5⟩
  · exact ⟨.inl rfl, rfl, by omega, by simp⟩
  · have hl : (ss.take len).length = len := by rw [List.length_take]; omega
    unfold maxLen at h2 h5
    refine ⟨?_, hl, by omega, fun s hs => by have := h5 s (List.mem_of_mem_take hs); omega⟩
    by_cases h0 : len = 0
    · left; subst h0; rfl
    · right
      obtain ⟨b, off, spot⟩ := x
      have hc := h4 0 (by omega)
      have hspot : spot = none := by simpa [Addr.add] using World.cell?_spot hc
      subst hspot
      refine ⟨b, off, rfl, fun i hi => ?_⟩
      rw [hl] at hi
      have := h4 i (by omega)
      have e : (⟨b, off, none⟩ : Addr).add i = ⟨b, off + i, none⟩ := by
        unfold Addr.add
        split
        · next h => rw [h]; simp
        · rfl
      rw [e] at this
      rw [this]
      simp [List.getD_eq_getElem?_getD, hi]
      rfl

def SizeOk (ss : List ByteArray) (w : World) (e : Ending) (w' : World) : Prop :=
  ∃ r : Int, e = .returned (.int .i64 r) ∧ w = w' ∧ Hid (0 ≤ r → ss.length ≤ 1048576 ∧ ∀ s ∈ ss, s.size ≤ 1048576)

set_option maxHeartbeats 1000000 in
theorem szStringS_any (a : Option Addr) (cap n : Nat) (ss : List ByteArray) (w : World) (hn : ss.length = n) (hn1 : (n : Int) ≤ 9223372036854775807) (hz : ∀ s ∈ ss, (s.size : Int) ≤ 9223372036854775807) (h : InS w a ss) :
    Calls Tryd.prog 5 #[.slice a n cap, .int .i64 1048576] w (SizeOk ss w) := by
  by_cases hbig : (1048576 : Int) < n
  · have HN : Hid ((0 : Int) ≤ -1 → ss.length ≤ 1048576 ∧ ∀ s ∈ ss, s.size ≤ 1048576) := fun h => absurd h (by omega)
    clear h hz hn
    go_enter Tryd.func5, Tryd.ntmps5
    go_wp2_with fail
    go_ret
    exact ⟨_, rfl, rfl, HN⟩
  · have HZ := Lib.hid hz
    have HN := Lib.hid hn
    clear hz hn
    rcases h with h0 | ⟨g, off, rfl, hr⟩
    · subst h0
      have hn0 : n = 0 := HN.out.symm
      subst hn0
      go_enter Tryd.func5, Tryd.ntmps5
      go_wp2_with fail
      go_loopw [1, 5] (fun v i wr => v = .int .i64 1048576 ∧ i = .int .i64 0 ∧ wr = w) (fun _ _ _ => 0)
      case atStart => exact ⟨rfl, rfl, rfl⟩
      case round =>
        obtain ⟨rfl, rfl, rfl⟩ := hrel
        go_wp2_with fail
        go_ret
        exact ⟨_, rfl, rfl, fun _ => ⟨by simp, by simp⟩⟩
    · have HR := Lib.hid hr
      clear hr
      go_enter Tryd.func5, Tryd.ntmps5
      go_wp2_with fail
      go_loopw [1, 5] (fun v i wr => ∃ (k : Nat) (r : Int), k ≤ n ∧ i = .int .i64 k ∧ v = .int .i64 r ∧ 0 ≤ r ∧ r ≤ 1048576 ∧ wr = w ∧ Hid (∀ s ∈ ss.take k, s.size ≤ 1048576)) (fun _ i _ => n - (intOf i).toNat)
      case atStart => exact ⟨0, _, Nat.zero_le _, rfl, rfl, by omega, by omega, rfl, fun s hs => by simp at hs⟩
      case round =>
        obtain ⟨k, r, hk, rfl, rfl, hr0, hr1, rfl, hall⟩ := hrel
        by_cases hlt : k < n
        · have hlt' : (k : Int) < (n : Int) := by omega
          have hlk : k < ss.length := by have := HN.out; omega
          have c1 := HR.out k hlk
          have hz1 := HZ.out (ss.getD k ⟨#[]⟩) (by rw [List.getD_eq_getElem?_getD, List.getElem?_eq_getElem hlk]; exact List.getElem_mem hlk)
          have htk : ss.take (k + 1) = ss.take k ++ [ss.getD k ⟨#[]⟩] := by rw [List.take_succ_eq_append_getElem hlk]; simp [hlk]
          obtain ⟨s, hs⟩ : ∃ s, s = ss.getD k ⟨#[]⟩ := ⟨_, rfl⟩
          rw [← hs] at c1 hz1 htk
          have HT := Lib.hid htk
          clear hs htk hlk
          by_cases hneg : r - s.size < 0
          · have HNN : Hid ((0 : Int) ≤ -1 → ss.length ≤ 1048576 ∧ ∀ s ∈ ss, s.size ≤ 1048576) := fun h => absurd h (by omega)
            go_wp2_with fail
            go_ret
            exact ⟨_, rfl, rfl, HNN⟩
          · go_wp2_with fail
            go_roundw
            case rel =>
              refine ⟨k + 1, r - s.size, by omega, by go_num, rfl, by omega, by omega, trivial, ?_⟩
              show ∀ s ∈ ss.take (k + 1), s.size ≤ 1048576
              rw [HT.out]
              intro x hx
              rw [List.mem_append] at hx
              rcases hx with hx | hx
              · exact hall.out x hx
              · simp at hx; subst hx; omega
            case measure => simp [intOf]; omega
        · obtain rfl : k = n := by omega
          have hfin : Hid (0 ≤ r → ss.length ≤ 1048576 ∧ ∀ s ∈ ss, s.size ≤ 1048576) := by
            intro _
            have h1 := hall.out
            rw [List.take_of_length_le (by have := HN.out; omega)] at h1
            exact ⟨by have := HN.out; omega, h1⟩
          go_wp2_with fail
          go_ret
          exact ⟨_, rfl, rfl, hfin⟩

theorem InS.keep {w w' : World} {a : Option Addr} {ss : List ByteArray} (h : InS w a ss) (hb : Below w.heap.size w w') : InS w' a ss := by
  rcases h with h | ⟨g, off, rfl, hr⟩
  · exact .inl h
  · exact .inr ⟨g, off, rfl, hr.keep hb⟩

/-- A call that hands back a copy, in new memory. -/
def CopyOf (ss : List ByteArray) (n : Nat) (w : World) (e : Ending) (w' : World) : Prop :=
  ∃ g : Nat, OwnS w.heap.size w' (.slice (some ⟨g, 0, none⟩) n n) ss ∧ Below w.heap.size w w' ∧ e = .returned (.slice (some ⟨g, 0, none⟩) n n)

theorem madeCells_str (n : Nat) : (madeCells (Value.string ⟨#[]⟩).cells (n * 1)).toList = (List.replicate n (⟨#[]⟩ : ByteArray)).map Value.string := by
  rw [List.map_replicate, Nat.mul_one]
  exact toList_madeCells_one _ _

set_option maxHeartbeats 1000000 in
theorem toStringS_any (a : Option Addr) (cap n : Nat) (ss : List ByteArray) (w : World) (hn : ss.length = n) (hn1 : n ≤ 1048576) (h : InS w a ss) :
    Calls Tryd.prog 7 #[.slice a n cap] w (CopyOf ss n w) := by
  obtain ⟨i0, hi, hz0, hz1, hz2⟩ := info_parts info_str
  have HN := Lib.hid hn
  have HI := Lib.hid h
  clear hn h
  go_enter Tryd.func7, Tryd.ntmps7
  go_wp2_with (at_make; refine wpList_make_full _ rfl _ _ 22 rfl w.heap.size 9 i0 (.string ⟨#[]⟩) 1 Tryd.underlying22 hi hz0 hz1 .i64 .i64 _ _ n rfl rfl rfl rfl (by rw [hz2]; omega) (by unfold maxLen; omega) (Nat.le_refl _) ?_; intro w0 hown0 hgrow0)
  rw [madeCells_str] at hown0
  have hb0 : Below w.heap.size w w0 := (Below.refl _ _).grown hgrow0 (Nat.le_refl _) (fun k hk => by cases hk)
  have hO : OwnS w.heap.size w0 (.slice (some ⟨w.heap.size, 0, none⟩) n n) (List.replicate n (⟨#[]⟩ : ByteArray)) := by
    unfold OwnS; rw [List.length_replicate]; exact hown0
  have HO := Lib.hid hO
  clear hown0 hgrow0 hO
  go_wp2_with fail
  go_loopw [4] (fun i wr => ∃ k : Nat, k ≤ n ∧ i = .int .i64 k ∧ Hid (OwnS w.heap.size wr (.slice (some ⟨w.heap.size, 0, none⟩) n n) (ss.take k ++ List.replicate (n - k) (⟨#[]⟩ : ByteArray))) ∧ Below w.heap.size w wr) (fun i _ => n - (intOf i).toNat)
  case atStart => exact ⟨0, Nat.zero_le _, rfl, HO, hb0⟩
  case round =>
    obtain ⟨k, hk, rfl, hown, hbw⟩ := hrel
    have hlen : (ss.take k ++ List.replicate (n - k) (⟨#[]⟩ : ByteArray)).length = n := by have := HN.out; simp; omega
    by_cases hlt : k < n
    · have hlt' : (k : Int) < (n : Int) := by omega
      have hlk : k < ss.length := by have := HN.out; omega
      rcases HI.out with h0 | ⟨g, off, ha, hr⟩
      · exfalso; rw [h0] at hlk; simp at hlk
      · have c1 := (hr.keep hbw) k hlk
        have hset := OwnS.set hlen hown.out k (ss.getD k ⟨#[]⟩)
        have hnext : (ss.take k ++ List.replicate (n - k) (⟨#[]⟩ : ByteArray)).set k (ss.getD k ⟨#[]⟩) = ss.take (k + 1) ++ List.replicate (n - (k + 1)) (⟨#[]⟩ : ByteArray) := by
          have e : n - k = (n - (k + 1)) + 1 := by omega
          rw [List.set_append_right _ _ (by simp; omega), e, List.replicate_succ]
          have e2 : k - (ss.take k).length = 0 := by simp; omega
          rw [e2, List.set_cons_zero, List.take_succ_eq_append_getElem hlk, List.append_assoc]
          simp [hlk]
        rw [hnext] at hset
        have hfz : wr.frozen? ⟨w.heap.size, k, none⟩ = false := World.ownsRow.frozenAt (by have := hown.out; unfold OwnS at this; rw [hlen] at this; exact this) k
        obtain ⟨x, hcell⟩ : ∃ x, wr.cell? ⟨w.heap.size, k, none⟩ = some x := by
          have h1 := hown.out
          unfold OwnS at h1
          rw [hlen] at h1
          have := World.ownsRow.cellAt h1 k (by omega)
          rw [this]
          exact ⟨_, List.getElem?_eq_getElem (by rw [List.length_map, hlen]; exact hlt)⟩
        obtain ⟨s, hs⟩ : ∃ s, s = ss.getD k ⟨#[]⟩ := ⟨_, rfl⟩
        rw [← hs] at c1 hset
        have hbw' : Below w.heap.size w (wr.setCell ⟨w.heap.size, k, none⟩ (.string s)) := hbw.setCell (Nat.le_refl _) _
        have HSET := Lib.hid hset
        clear hset hs hnext hlk
        subst ha
        go_wp2_with fail
        go_roundw
        case rel => exact ⟨k + 1, by omega, by go_num, HSET, hbw'⟩
        case measure => simp [intOf]; omega
    · obtain rfl : k = n := by omega
      have hend : Hid (OwnS w.heap.size wr (.slice (some ⟨w.heap.size, 0, none⟩) k k) ss) := by
        have h1 := hown.out
        rw [Nat.sub_self, List.replicate_zero, List.append_nil, List.take_of_length_le (by have := HN.out; omega)] at h1
        exact h1
      go_wp2_with fail
      go_ret
      exact ⟨_, hend.out, hbw, rfl⟩
end Go.Proofs.YtplmbdljhgicfaaDoor

/-! Tail -/
namespace Go.Proofs.YtplmbdljhgicfaaDoor
open Go.RowKit

theorem CellsI.len {base : Nat} {w : World} {v : Value} {xs : List Int} (h : CellsI base w v xs) : (xs.length : Int) ≤ 9223372036854775807 := by
  rcases h with ⟨_, rfl⟩ | ⟨g, cap, _, _, _, h1, h2, _⟩
  · simp
  · unfold maxLen at h2; omega

theorem CellsI.drewN {base : Nat} {w : World} {v : Value} {xs : List Int} (h : CellsI base w v xs) (n : Nat) : CellsI base (w.drewN n) v xs := h

set_option maxHeartbeats 1000000 in
theorem eqIntS_any (b1 b2 : Nat) (v1 v2 : Value) (xs : List Int) (w : World) (h1 : CellsI b1 w v1 xs) (h2 : CellsI b2 w v2 xs) :
    Calls Tryd.prog 9 #[v1, v2] w (Quietly (.bool true) w) := by
  have hl := h1.len
  rcases h1 with ⟨rfl, rfl⟩ | ⟨g, cap, rfl, hb1, hg1, hc1, hm1, hx1, _⟩
  · rcases h2 with ⟨rfl, _⟩ | ⟨g, cap, rfl, hb1, hg1, hc1, hm1, hx1, _⟩
    all_goals
      go_enter Tryd.func9, Tryd.ntmps9
      go_wp2_with fail
      go_loopw [5] (fun i wr => i = .int .i64 0 ∧ wr = w) (fun _ _ => 0)
      case atStart => exact ⟨rfl, rfl⟩
      case round =>
        obtain ⟨rfl, rfl⟩ := hrel
        go_wp2_with fail
        go_ret
        exact ⟨rfl, 0, rfl⟩
  · rcases h2 with ⟨rfl, rfl⟩ | ⟨g2, cap2, rfl, hb2, hg2, hc2, hm2, hx2, _⟩
    · go_enter Tryd.func9, Tryd.ntmps9
      go_wp2_with fail
      go_loopw [5] (fun i wr => i = .int .i64 0 ∧ wr = w) (fun _ _ => 0)
      case atStart => exact ⟨rfl, rfl⟩
      case round =>
        obtain ⟨rfl, rfl⟩ := hrel
        go_wp2_with fail
        go_ret
        exact ⟨rfl, 0, rfl⟩
    · have HX1 := Lib.hid hx1
      have HX2 := Lib.hid hx2
      clear hx1 hx2
      go_enter Tryd.func9, Tryd.ntmps9
      go_wp2_with fail
      go_loopw [5] (fun i wr => ∃ k d : Nat, k ≤ xs.length ∧ i = .int .i64 k ∧ wr = w.drewN d) (fun i _ => xs.length - (intOf i).toNat)
      case atStart => exact ⟨0, 0, Nat.zero_le _, rfl, rfl⟩
      case round =>
        obtain ⟨k, d, hk, rfl, rfl⟩ := hrel
        by_cases hlt : k < xs.length
        · have hlt' : (k : Int) < (xs.length : Int) := by omega
          have c1 := HX1.out k hlt
          have c2 := HX2.out k hlt
          obtain ⟨x, hx⟩ : ∃ x, x = xs.getD k 0 := ⟨_, rfl⟩
          rw [← hx] at c1 c2
          clear hx
          go_wp2_with fail
          go_quiet (fail)
          go_wp2_with fail
          go_roundw
          case rel => exact ⟨k + 1, _, by omega, by go_num, rfl⟩
          case measure => simp [intOf]; omega
        · obtain rfl : k = xs.length := by omega
          go_wp2_with fail
          go_ret
          exact ⟨rfl, _, rfl⟩

/-- k, k + 1, .. : n numbers. -/
def marks (k : Int) (n : Nat) : List Int := (List.range n).map fun (i : Nat) => k + (i : Int)
theorem marks_length (k : Int) (n : Nat) : (marks k n).length = n := by simp [marks]
theorem marks_getD (k : Int) {n i : Nat} (h : i < n) : (marks k n).getD i 0 = k + i := by simp [marks, h]

set_option maxHeartbeats 1000000 in
theorem heldIntS_any (b1 : Nat) (v1 : Value) (n : Nat) (k : Int) (w : World) (hk0 : 0 ≤ k) (hk1 : k ≤ 1000000000) (hn9 : n ≤ 1000000000) (h1 : CellsI b1 w v1 (marks k n)) :
    Calls Tryd.prog 13 #[v1, .int .i64 k] w (Quietly (.int .i64 (k + n)) w) := by
  have hl := h1.len
  rcases h1 with ⟨rfl, hn⟩ | ⟨g, cap, rfl, hb1, hg1, hc1, hm1, hx1, _⟩
  · have hn0 : n = 0 := by have := congrArg List.length hn; simpa [marks_length] using this
    subst hn0
    clear hn
    go_enter Tryd.func13, Tryd.ntmps13
    go_wp2_with fail
    go_loopw [1, 5] (fun v i wr => v = .int .i64 k ∧ i = .int .i64 0 ∧ wr = w) (fun _ _ _ => 0)
    case atStart => exact ⟨rfl, rfl, rfl⟩
    case round =>
      obtain ⟨rfl, rfl, rfl⟩ := hrel
      go_wp2_with fail
      go_ret
      exact ⟨ret_int (by simp), 0, rfl⟩
  · rw [marks_length] at hx1 hc1 hl ⊢
    have HX1 := Lib.hid hx1
    clear hx1
    go_enter Tryd.func13, Tryd.ntmps13
    go_wp2_with fail
    go_loopw [1, 5] (fun v i wr => ∃ j d : Nat, j ≤ n ∧ i = .int .i64 j ∧ v = .int .i64 (k + j) ∧ wr = w.drewN d) (fun _ i _ => n - (intOf i).toNat)
    case atStart => exact ⟨0, 0, Nat.zero_le _, rfl, by simp, rfl⟩
    case round =>
      obtain ⟨j, d, hj, rfl, rfl, rfl⟩ := hrel
      by_cases hlt : j < n
      · have hlt' : (j : Int) < (n : Int) := by omega
        have c1 := HX1.out j hlt
        rw [marks_getD k hlt] at c1
        go_wp2_with fail
        go_roundw
        case rel => exact ⟨j + 1, _, by omega, by go_num, by go_num, rfl⟩
        case measure => simp [intOf]; omega
      · obtain rfl : j = n := by omega
        go_wp2_with fail
        go_ret
        exact ⟨rfl, _, rfl⟩
theorem marks_set (k : Int) (xs : List Int) (j : Nat) (h : j < xs.length) : (marks k j ++ xs.drop j).set j (k + j) = marks k (j + 1) ++ xs.drop (j + 1) := by
  have hm := marks_length k j
  have e1 : marks k (j + 1) = marks k j ++ [k + j] := by simp [marks, List.range_succ]
  rw [List.set_append_right _ _ (by omega), hm, Nat.sub_self, e1, List.append_assoc]
  congr 1
  rw [List.drop_eq_getElem_cons h]
  rfl

theorem OwnI.set {base : Nat} {w : World} {g cap : Nat} {xs : List Int} {n : Nat} (hn : xs.length = n) (h : OwnI base w (.slice (some ⟨g, 0, none⟩) n cap) xs) (j : Nat) (m : Int) :
    OwnI base (w.setCell ⟨g, j, none⟩ (.int .i64 m)) (.slice (some ⟨g, 0, none⟩) n cap) (xs.set j m) := by
  unfold OwnI at *
  subst hn
  rw [List.length_set, List.map_set]
  exact (World.ownsRow.stored h j _).1

/-- A call that hands back a number, and leaves the slice v with other numbers. -/
def Marked (base : Nat) (r : Int) (v : Value) (xs : List Int) (w : World) (e : Ending) (w' : World) : Prop := e = .returned (.int .i64 r) ∧ OwnI base w' v xs ∧ Below base w w'

set_option maxHeartbeats 1000000 in
theorem markIntS_any (base : Nat) (v : Value) (xs : List Int) (n : Nat) (hn : xs.length = n) (k : Int) (w : World) (hk0 : 0 ≤ k) (hk1 : k ≤ 1000000000) (hn9 : n ≤ 1000000000) (h : OwnI base w v xs) :
    Calls Tryd.prog 12 #[v, .int .i64 k] w (Marked base (k + n) v (marks k n) w) := by
  have hb0 := Below.refl base w
  rcases h.cells with ⟨rfl, rfl⟩ | ⟨g, cap, rfl, hb1, hg1, hc1, hm1, hx1, hf1⟩
  · obtain rfl : n = 0 := hn.symm
    have H := Lib.hid h
    clear h hn
    go_enter Tryd.func12, Tryd.ntmps12
    go_wp2_with fail
    go_loopw [1, 5] (fun v i wr => v = .int .i64 k ∧ i = .int .i64 0 ∧ wr = w) (fun _ _ _ => 0)
    case atStart => exact ⟨rfl, rfl, rfl⟩
    case round =>
      obtain ⟨rfl, rfl, rfl⟩ := hrel
      go_wp2_with fail
      go_ret
      exact ⟨ret_int (by simp), H.out, hb0⟩
  · rw [hn] at hc1 h ⊢
    clear hx1 hf1
    have H := Lib.hid h
    have HN := Lib.hid hn
    clear h hn
    go_enter Tryd.func12, Tryd.ntmps12
    go_wp2_with fail
    go_loopw [1, 5] (fun v i wr => ∃ j : Nat, j ≤ n ∧ i = .int .i64 j ∧ v = .int .i64 (k + j) ∧ Hid (OwnI base wr (.slice (some ⟨g, 0, none⟩) n cap) (marks k j ++ xs.drop j)) ∧ Below base w wr) (fun _ i _ => n - (intOf i).toNat)
    case atStart => exact ⟨0, Nat.zero_le _, rfl, by simp, by simpa [marks] using H, hb0⟩
    case round =>
      obtain ⟨j, hj, rfl, rfl, hown, hbw⟩ := hrel
      have hlen : (marks k j ++ xs.drop j).length = n := by have := HN.out; rw [List.length_append, marks_length, List.length_drop]; omega
      by_cases hlt : j < n
      · have hlt' : (j : Int) < (n : Int) := by omega
        have hset := OwnI.set hlen hown.out j (k + j)
        rw [marks_set k xs j (by rw [HN.out]; exact hlt)] at hset
        have hcells := hown.out.cells
        have hfz : wr.frozen? ⟨g, j, none⟩ = false := World.ownsRow.frozenAt (by have := hown.out; unfold OwnI at this; rw [hlen] at this; exact this) j
        obtain ⟨x, hcell⟩ : ∃ x, wr.cell? ⟨g, j, none⟩ = some x := by
          have h1 := hown.out
          unfold OwnI at h1
          rw [hlen] at h1
          have := World.ownsRow.cellAt h1 j (by omega)
          rw [this]
          exact ⟨_, List.getElem?_eq_getElem (by rw [List.length_map, hlen]; exact hlt)⟩
        have hbw' : Below base w (wr.setCell ⟨g, j, none⟩ (.int .i64 (k + j))) := hbw.setCell (by exact hb1) _
        have HSET := Lib.hid hset
        clear hset hcells
        go_wp2_with fail
        go_roundw
        case rel => exact ⟨j + 1, by omega, by go_num, by go_num, HSET, hbw'⟩
        case measure => simp [intOf]; omega
      · obtain rfl : j = n := by omega
        have hend : Hid (OwnI base wr (.slice (some ⟨g, 0, none⟩) j cap) (marks k j)) := by
          have h1 := hown.out
          rw [List.drop_of_length_le (by rw [HN.out]; exact Nat.le_refl _), List.append_nil] at h1
          exact h1
        go_wp2_with fail
        go_ret
        exact ⟨rfl, hend.out, hbw⟩

end Go.Proofs.YtplmbdljhgicfaaDoor

/-! ArgI -/
namespace Go.Proofs.YtplmbdljhgicfaaDoor
open Go.RowKit

/-- A slice of integers that came in: it is nil, or leads to a row of 'cap' cells, the first 'len' of which are its elements. -/
def IsInts (w : World) (a : Option Addr) (len cap : Nat) (ss : List Int) : Prop :=
  (a = none ∧ len = 0 ∧ cap = 0 ∧ ss = []) ∨
  ∃ x, a = some x ∧ len ≤ cap ∧ cap ≤ maxLen ∧ ss.length = cap ∧ (∀ i, i < ss.length → w.cell? (x.add i) = some (.int .i64 (ss.getD i 0))) ∧ ∀ s ∈ ss, (Lit.int .i64 s).wf = true

/-- What can be read of a slice of integers: the cells from an address on. -/
def ReadI (w : World) (g off : Nat) (ss : List Int) : Prop := ∀ i, i < ss.length → w.cell? ⟨g, off + i, none⟩ = some (.int .i64 (ss.getD i 0))

theorem ReadI.keep {w w' : World} {g off : Nat} {ss : List Int} (h : ReadI w g off ss) (hb : Below w.heap.size w w') : ReadI w' g off ss := by
  intro i hi
  have := h i hi
  exact (hb.cell (p := ⟨g, off + i, none⟩) (World.block_lt_of_cell? w _ this)).trans this

/-- The slice as the walks take it: empty, or readable from an address on. -/
def InI (w : World) (a : Option Addr) (ss : List Int) : Prop := ss = [] ∨ ∃ g off, a = some ⟨g, off, none⟩ ∧ ReadI w g off ss

theorem IsInts.inI {w : World} {a : Option Addr} {len cap : Nat} {ss : List Int} (h : IsInts w a len cap ss) : InI w a (ss.take len) ∧ (ss.take len).length = len ∧ (len : Int) ≤ 9223372036854775807 ∧ ∀ s ∈ ss.take len, -9223372036854775808 ≤ s ∧ s ≤ 9223372036854775807 := by
  rcases h with ⟨rfl, rfl, rfl, rfl⟩ | ⟨x, rfl, h1, h2, h3, h4, h5⟩
  · exact ⟨.inl rfl, rfl, by omega, by simp⟩
  · have hl : (ss.take len).length = len := by rw [List.length_take]; omega
    unfold maxLen at h2
    refine ⟨?_, hl, by omega, fun s hs => i64_bounds (h5 s (List.mem_of_mem_take hs))⟩
    by_cases h0 : len = 0
    · left; subst h0; rfl
    · right
      obtain ⟨b, off, spot⟩ := x
      have hc := h4 0 (by omega)
      have hspot : spot = none := by simpa [Addr.add] using World.cell?_spot hc
      subst hspot
      refine ⟨b, off, rfl, fun i hi => ?_⟩
      rw [hl] at hi
      have := h4 i (by omega)
      have e : (⟨b, off, none⟩ : Addr).add i = ⟨b, off + i, none⟩ := by
        unfold Addr.add
        split
        · next h => rw [h]; simp
        · rfl
      rw [e] at this
      rw [this]
      simp [List.getD_eq_getElem?_getD, hi]

theorem InI.keep {w w' : World} {a : Option Addr} {ss : List Int} (h : InI w a ss) (hb : Below w.heap.size w w') : InI w' a ss := by
  rcases h with h | ⟨g, off, rfl, hr⟩
  · exact .inl h
  · exact .inr ⟨g, off, rfl, hr.keep hb⟩

/-- A call that hands back a copy, in new memory. -/
def CopyOfI (ss : List Int) (n : Nat) (w : World) (e : Ending) (w' : World) : Prop :=
  ∃ g : Nat, OwnI w.heap.size w' (.slice (some ⟨g, 0, none⟩) n n) ss ∧ Below w.heap.size w w' ∧ e = .returned (.slice (some ⟨g, 0, none⟩) n n)

theorem madeCells_int (n : Nat) : (madeCells (Value.int .i64 0).cells (n * 1)).toList = (List.replicate n (0 : Int)).map (Value.int .i64) := by
  rw [List.map_replicate, Nat.mul_one]
  exact toList_madeCells_one _ _

end Go.Proofs.YtplmbdljhgicfaaDoor

/-! MarkG -/
namespace Go.Proofs.YtplmbdljhgicfaaDoor
open Go.RowKit

/-- A call that hands back a number, and leaves the slice in block g with other numbers; no other block turns. -/
def MarkedG (base : Nat) (g : Nat) (r : Int) (v : Value) (xs : List Int) (w : World) (e : Ending) (w' : World) : Prop := e = .returned (.int .i64 r) ∧ OwnI base w' v xs ∧ w.grownBy w' (some g)

theorem grown_refl (w : World) (r : Option Nat) : w.grownBy w r := ⟨rfl, rfl, rfl, Nat.le_refl _, fun _ _ _ => rfl⟩
theorem grown_trans {a b c : World} {r : Option Nat} (h : a.grownBy b r) (k : b.grownBy c r) : a.grownBy c r :=
  ⟨k.os.trans h.os, k.tape.trans h.tape, k.output.trans h.output, Nat.le_trans h.size k.size, fun i hi hn => (k.block i (Nat.lt_of_lt_of_le hi h.size) hn).trans (h.block i hi hn)⟩
theorem OwnI.kept {base : Nat} {w w' : World} {v : Value} {xs : List Int} {g : Nat} (h : OwnI base w v xs) (hg : w.grownBy w' (some g)) (hne : g < base) : OwnI base w' v xs := by
  refine World.ownsRow.kept h hg ?_
  rcases h.2 with ⟨hv, _⟩ | ⟨g', cap, cur, hv, hb, _⟩
  · subst hv; exact .inl rfl
  · subst hv; right; simp only [Value.ownBlock]; intro e; injection e with e; omega
theorem OwnI.lt {base : Nat} {w : World} {g n cap : Nat} {xs : List Int} (h : OwnI base w (.slice (some ⟨g, 0, none⟩) n cap) xs) : base ≤ g ∧ g < w.heap.size := World.ownsRow.lt h g rfl
theorem grown_below {w w' : World} {g B : Nat} (h : w.grownBy w' (some g)) (hB : B ≤ w.heap.size) (hg : B ≤ g) : Below B w w' := (Below.refl _ _).grown h hB (fun k hk => by injection hk with hk; omega)
theorem OwnI.up {base : Nat} {w : World} {g n cap : Nat} {xs : List Int} (h : OwnI base w (.slice (some ⟨g, 0, none⟩) n cap) xs) : OwnI g w (.slice (some ⟨g, 0, none⟩) n cap) xs := by
  refine ⟨h.1, ?_⟩
  rcases h.2 with ⟨hv, hn⟩ | ⟨g', cap', cur, hv, hb, r⟩
  · cases hv
  · cases hv
    exact .inr ⟨g, cap, cur, rfl, Nat.le_refl _, r⟩

set_option maxHeartbeats 1000000 in
theorem markIntS_one (base : Nat) (g cap n : Nat) (xs : List Int) (hn : xs.length = n) (k : Int) (w : World) (hk0 : 0 ≤ k) (hk1 : k ≤ 1000000000) (hn9 : n ≤ 1000000000) (h : OwnI base w (.slice (some ⟨g, 0, none⟩) n cap) xs) :
    Calls Tryd.prog 12 #[.slice (some ⟨g, 0, none⟩) n cap, .int .i64 k] w (MarkedG base g (k + n) (.slice (some ⟨g, 0, none⟩) n cap) (marks k n) w) := by
  have hb0 := grown_refl w (some g)
  have H := Lib.hid h
  have HN := Lib.hid hn
  clear h hn
  go_enter Tryd.func12, Tryd.ntmps12
  go_wp2_with fail
  go_loopw [1, 5] (fun v i wr => ∃ j : Nat, j ≤ n ∧ i = .int .i64 j ∧ v = .int .i64 (k + j) ∧ Hid (OwnI base wr (.slice (some ⟨g, 0, none⟩) n cap) (marks k j ++ xs.drop j)) ∧ w.grownBy wr (some g)) (fun _ i _ => n - (intOf i).toNat)
  case atStart => exact ⟨0, Nat.zero_le _, rfl, by simp, by simpa [marks] using H, hb0⟩
  case round =>
    obtain ⟨j, hj, rfl, rfl, hown, hbw⟩ := hrel
    have hlen : (marks k j ++ xs.drop j).length = n := by have := HN.out; rw [List.length_append, marks_length, List.length_drop]; omega
    by_cases hlt : j < n
    · have hlt' : (j : Int) < (n : Int) := by omega
      have hset := OwnI.set hlen hown.out j (k + j)
      rw [marks_set k xs j (by rw [HN.out]; exact hlt)] at hset
      have hrow := hown.out
      unfold OwnI at hrow
      rw [hlen] at hrow
      have hfz : wr.frozen? ⟨g, j, none⟩ = false := World.ownsRow.frozenAt hrow j
      obtain ⟨x, hcell⟩ : ∃ x, wr.cell? ⟨g, j, none⟩ = some x := by
        have := World.ownsRow.cellAt hrow j (by omega)
        rw [this]
        exact ⟨_, List.getElem?_eq_getElem (by rw [List.length_map, hlen]; exact hlt)⟩
      have hbw' : w.grownBy (wr.setCell ⟨g, j, none⟩ (.int .i64 (k + j))) (some g) := grown_trans hbw (World.ownsRow.stored hrow j _).2
      have HSET := Lib.hid hset
      clear hset hrow
      go_wp2_with fail
      go_roundw
      case rel => exact ⟨j + 1, by omega, by go_num, by go_num, HSET, hbw'⟩
      case measure => simp [intOf]; omega
    · obtain rfl : j = n := by omega
      have hend : Hid (OwnI base wr (.slice (some ⟨g, 0, none⟩) j cap) (marks k j)) := by
        have h1 := hown.out
        rw [List.drop_of_length_le (by rw [HN.out]; exact Nat.le_refl _), List.append_nil] at h1
        exact h1
      go_wp2_with fail
      go_ret
      exact ⟨rfl, hend.out, hbw⟩
end Go.Proofs.YtplmbdljhgicfaaDoor

/-! MarkS -/
namespace Go.Proofs.YtplmbdljhgicfaaDoor
open Go.RowKit

/-- A slice that came in is a slice with these cells. -/
theorem OwnS.up {base : Nat} {w : World} {g n cap : Nat} {xs : List ByteArray} (h : OwnS base w (.slice (some ⟨g, 0, none⟩) n cap) xs) : OwnS g w (.slice (some ⟨g, 0, none⟩) n cap) xs := by
  refine ⟨h.1, ?_⟩
  rcases h.2 with ⟨hv, hn⟩ | ⟨g', cap', cur, hv, hb, r⟩
  · cases hv
  · cases hv
    exact .inr ⟨g, cap, cur, rfl, Nat.le_refl _, r⟩
theorem OwnS.lt {base : Nat} {w : World} {g n cap : Nat} {xs : List ByteArray} (h : OwnS base w (.slice (some ⟨g, 0, none⟩) n cap) xs) : base ≤ g ∧ g < w.heap.size := World.ownsRow.lt h g rfl
theorem OwnS.kept {base : Nat} {w w' : World} {v : Value} {xs : List ByteArray} {g : Nat} (h : OwnS base w v xs) (hg : w.grownBy w' (some g)) (hne : g < base) : OwnS base w' v xs := by
  refine World.ownsRow.kept h hg ?_
  rcases h.2 with ⟨hv, _⟩ | ⟨g', cap, cur, hv, hb, _⟩
  · subst hv; exact .inl rfl
  · subst hv; right; simp only [Value.ownBlock]; intro e; injection e with e; omega
theorem below_grown {w w' : World} (h : Below w.heap.size w w') (r : Option Nat) : w.grownBy w' r := ⟨h.os, h.tape, h.output, h.size, fun i hi _ => h.block i hi⟩

/-- A call that hands back a number, and leaves the slice in block g with other texts; no other block turns. -/
def MarkedGS (base : Nat) (g : Nat) (r : Int) (v : Value) (xs : List ByteArray) (w : World) (e : Ending) (w' : World) : Prop := e = .returned (.int .i64 r) ∧ OwnS base w' v xs ∧ w.grownBy w' (some g)

set_option maxHeartbeats 1000000 in
theorem markStringS_one (base : Nat) (g cap n : Nat) (xs : List ByteArray) (hn : xs.length = n) (k : Nat) (w : World) (hk0 : 0 < k) (hk1 : k ≤ 1000000000) (hn9 : n ≤ 1000000000) (h : OwnS base w (.slice (some ⟨g, 0, none⟩) n cap) xs) :
    Calls Tryd.prog 11 #[.slice (some ⟨g, 0, none⟩) n cap, .int .i64 k] w (MarkedGS base g ((k + n : Nat) : Int) (.slice (some ⟨g, 0, none⟩) n cap) (marksS k n) w) := by
  have hb0 := grown_refl w (some g)
  have H := Lib.hid h
  have HN := Lib.hid hn
  clear h hn
  go_enter Tryd.func11, Tryd.ntmps11
  go_wp2_with fail
  go_loopw [1, 5] (fun v i wr => ∃ j : Nat, j ≤ n ∧ i = .int .i64 j ∧ v = .int .i64 ((k + j : Nat) : Int) ∧ Hid (OwnS base wr (.slice (some ⟨g, 0, none⟩) n cap) (marksS k j ++ xs.drop j)) ∧ w.grownBy wr (some g)) (fun _ i _ => n - (intOf i).toNat)
  case atStart => exact ⟨0, Nat.zero_le _, rfl, by simp, by simpa [marksS] using H, hb0⟩
  case round =>
    obtain ⟨j, hj, rfl, rfl, hown, hbw⟩ := hrel
    have hlen : (marksS k j ++ xs.drop j).length = n := by have := HN.out; rw [List.length_append, marksS_length, List.length_drop]; omega
    by_cases hlt : j < n
    · have hlt' : (j : Int) < (n : Int) := by omega
      have hmt := fun w => markText_any (k + j) w (by omega) (by omega)
      go_wp2_with fail
      refine (hmt _).mono ?_; rintro e w1 ⟨rfl, hbm⟩
      have hown1 := hown.out.keep hbm
      have hset := OwnS.set hlen hown1 j (markT (k + j))
      rw [marksS_set k xs j (by rw [HN.out]; exact hlt)] at hset
      have hrow := hown1
      unfold OwnS at hrow
      rw [hlen] at hrow
      have hfz : w1.frozen? ⟨g, j, none⟩ = false := World.ownsRow.frozenAt hrow j
      obtain ⟨x, hcell⟩ : ∃ x, w1.cell? ⟨g, j, none⟩ = some x := by
        have := World.ownsRow.cellAt hrow j (by omega)
        rw [this]
        exact ⟨_, List.getElem?_eq_getElem (by rw [List.length_map, hlen]; exact hlt)⟩
      have hbw' : w.grownBy (w1.setCell ⟨g, j, none⟩ (.string (markT (k + j)))) (some g) := grown_trans (grown_trans hbw (below_grown hbm _)) (World.ownsRow.stored hrow j _).2
      have HSET := Lib.hid hset
      clear hset hrow hown1
      go_wp2_with fail
      go_roundw
      case rel => exact ⟨j + 1, by omega, by go_num, by go_num, HSET, hbw'⟩
      case measure => simp [intOf]; omega
    · obtain rfl : j = n := by omega
      have hend : Hid (OwnS base wr (.slice (some ⟨g, 0, none⟩) j cap) (marksS k j)) := by
        have h1 := hown.out
        rw [List.drop_of_length_le (by rw [HN.out]; exact Nat.le_refl _), List.append_nil] at h1
        exact h1
      go_wp2_with fail
      go_ret
      exact ⟨ret_int (by simp), hend.out, hbw⟩

theorem markStringS_one1 (base : Nat) (g cap n : Nat) (xs : List ByteArray) (hn : xs.length = n) (w : World) (hn9 : n ≤ 1000000000) (h : OwnS base w (.slice (some ⟨g, 0, none⟩) n cap) xs) :
    Calls Tryd.prog 11 #[.slice (some ⟨g, 0, none⟩) n cap, .int .i64 1] w (MarkedGS base g ((1 + n : Nat) : Int) (.slice (some ⟨g, 0, none⟩) n cap) (marksS 1 n) w) :=
  markStringS_one base g cap n xs hn 1 w (by omega) (by omega) hn9 h

/-- The number that is left is known to be none or at most so much. -/
def SizeAt (ss : List ByteArray) (w : World) (e : Ending) (w' : World) : Prop :=
  ∃ r : Int, e = .returned (.int .i64 r) ∧ w = w' ∧ Hid (r ≤ 1048576) ∧ Hid (0 ≤ r → ss.length ≤ 1048576 ∧ ∀ s ∈ ss, s.size ≤ 1048576)

set_option maxHeartbeats 1000000 in
theorem szStringS_at (a : Option Addr) (cap n : Nat) (ss : List ByteArray) (left : Int) (w : World) (hl0 : 0 ≤ left) (hl1 : left ≤ 1048576) (hn : ss.length = n) (hn1 : (n : Int) ≤ 9223372036854775807) (hz : ∀ s ∈ ss, (s.size : Int) ≤ 9223372036854775807) (h : InS w a ss) :
    Calls Tryd.prog 5 #[.slice a n cap, .int .i64 left] w (SizeAt ss w) := by
  by_cases hbig : left < n
  · have HN : Hid ((0 : Int) ≤ -1 → ss.length ≤ 1048576 ∧ ∀ s ∈ ss, s.size ≤ 1048576) := fun h => absurd h (by omega)
    have HM : Hid ((-1 : Int) ≤ 1048576) := by show (-1 : Int) ≤ 1048576; omega
    clear h hz hn
    go_enter Tryd.func5, Tryd.ntmps5
    go_wp2_with fail
    go_ret
    exact ⟨_, rfl, rfl, HM, HN⟩
  · have HZ := Lib.hid hz
    have HN := Lib.hid hn
    clear hz hn
    rcases h with h0 | ⟨g, off, rfl, hr⟩
    · subst h0
      have hn0 : n = 0 := HN.out.symm
      subst hn0
      have HM : Hid (left ≤ 1048576) := hl1
      go_enter Tryd.func5, Tryd.ntmps5
      go_wp2_with fail
      go_loopw [1, 5] (fun v i wr => v = .int .i64 left ∧ i = .int .i64 0 ∧ wr = w) (fun _ _ _ => 0)
      case atStart => exact ⟨by go_num, rfl, rfl⟩
      case round =>
        obtain ⟨rfl, rfl, rfl⟩ := hrel
        go_wp2_with fail
        go_ret
        exact ⟨_, rfl, rfl, HM, fun _ => ⟨by simp, by simp⟩⟩
    · have HR := Lib.hid hr
      clear hr
      go_enter Tryd.func5, Tryd.ntmps5
      go_wp2_with fail
      go_loopw [1, 5] (fun v i wr => ∃ (k : Nat) (r : Int), k ≤ n ∧ i = .int .i64 k ∧ v = .int .i64 r ∧ 0 ≤ r ∧ r ≤ 1048576 ∧ wr = w ∧ Hid (∀ s ∈ ss.take k, s.size ≤ 1048576)) (fun _ i _ => n - (intOf i).toNat)
      case atStart => exact ⟨0, _, Nat.zero_le _, rfl, rfl, by omega, by omega, rfl, fun s hs => by simp at hs⟩
      case round =>
        obtain ⟨k, r, hk, rfl, rfl, hr0, hr1, rfl, hall⟩ := hrel
        by_cases hlt : k < n
        · have hlt' : (k : Int) < (n : Int) := by omega
          have hlk : k < ss.length := by have := HN.out; omega
          have c1 := HR.out k hlk
          have hz1 := HZ.out (ss.getD k ⟨#[]⟩) (by rw [List.getD_eq_getElem?_getD, List.getElem?_eq_getElem hlk]; exact List.getElem_mem hlk)
          have htk : ss.take (k + 1) = ss.take k ++ [ss.getD k ⟨#[]⟩] := by rw [List.take_succ_eq_append_getElem hlk]; simp [hlk]
          obtain ⟨s, hs⟩ : ∃ s, s = ss.getD k ⟨#[]⟩ := ⟨_, rfl⟩
          rw [← hs] at c1 hz1 htk
          have HT := Lib.hid htk
          clear hs htk hlk
          by_cases hneg : r - s.size < 0
          · have HNN : Hid ((0 : Int) ≤ -1 → ss.length ≤ 1048576 ∧ ∀ s ∈ ss, s.size ≤ 1048576) := fun h => absurd h (by omega)
            have HM : Hid ((-1 : Int) ≤ 1048576) := by show (-1 : Int) ≤ 1048576; omega
            go_wp2_with fail
            go_ret
            exact ⟨_, rfl, rfl, HM, HNN⟩
          · go_wp2_with fail
            go_roundw
            case rel =>
              refine ⟨k + 1, r - s.size, by omega, by go_num, rfl, by omega, by omega, trivial, ?_⟩
              show ∀ s ∈ ss.take (k + 1), s.size ≤ 1048576
              rw [HT.out]
              intro x hx
              rw [List.mem_append] at hx
              rcases hx with hx | hx
              · exact hall.out x hx
              · simp at hx; subst hx; omega
            case measure => simp [intOf]; omega
        · obtain rfl : k = n := by omega
          have HM : Hid (r ≤ 1048576) := hr1
          have hfin : Hid (0 ≤ r → ss.length ≤ 1048576 ∧ ∀ s ∈ ss, s.size ≤ 1048576) := by
            intro _
            have h1 := hall.out
            rw [List.take_of_length_le (by have := HN.out; omega)] at h1
            exact ⟨by have := HN.out; omega, h1⟩
          go_wp2_with fail
          go_ret
          exact ⟨_, rfl, rfl, HM, hfin⟩
end Go.Proofs.YtplmbdljhgicfaaDoor

/-! Form -/
namespace Go.Proofs.YtplmbdljhgicfaaDoor
open Go.RowKit

theorem CellsI.form {b1 : Nat} {w : World} {v : Value} {xs : List Int} (h : CellsI b1 w v xs) :
    ∃ oa cap, v = .slice oa xs.length cap ∧ xs.length ≤ cap ∧ cap ≤ maxLen ∧ ∀ i, i < xs.length → ∃ g, oa = some ⟨g, 0, none⟩ ∧ b1 ≤ g ∧ g < w.heap.size ∧ w.cell? ⟨g, i, none⟩ = some (.int .i64 (xs.getD i 0)) := by
  rcases h with ⟨rfl, rfl⟩ | ⟨g, cap, rfl, h1, h2, h3, h4, h5, _⟩
  · exact ⟨none, 0, rfl, Nat.le_refl _, Nat.zero_le _, fun i hi => by simp at hi⟩
  · exact ⟨some ⟨g, 0, none⟩, cap, rfl, h3, h4, fun i hi => ⟨g, rfl, h1, h2, h5 i hi⟩⟩

end Go.Proofs.YtplmbdljhgicfaaDoor

/-! Src -/
namespace Go.Proofs.YtplmbdljhgicfaaDoor
open Go.RowKit

theorem CellsS.form0 {b1 : Nat} {w : World} {v : Value} {xs : List ByteArray} (h : CellsS b1 w v xs) :
    ∃ oa cap, v = .slice oa xs.length cap ∧ xs.length ≤ cap ∧ cap ≤ maxLen ∧ ∀ i, i < xs.length → ∃ g, oa = some ⟨g, 0, none⟩ ∧ b1 ≤ g ∧ g < w.heap.size ∧ w.cell? ⟨g, i, none⟩ = some (.string (xs.getD i ⟨#[]⟩)) := by
  rcases h with ⟨rfl, rfl⟩ | ⟨g, cap, rfl, h1, h2, h3, h4, h5, _⟩
  · exact ⟨none, 0, rfl, Nat.le_refl _, Nat.zero_le _, fun i hi => by simp at hi⟩
  · exact ⟨some ⟨g, 0, none⟩, cap, rfl, h3, h4, fun i hi => ⟨g, rfl, h1, h2, h5 i hi⟩⟩

theorem CellsS.at1 {b1 : Nat} {w : World} {g n cap : Nat} {ss : List ByteArray} (h : CellsS b1 w (.slice (some ⟨g, 0, none⟩) n cap) ss) {i : Nat} {t : ByteArray} (hi : ss[i]? = some t) : w.cell? ⟨g, i, none⟩ = some (.string t) := by
  rcases h with ⟨h, _⟩ | ⟨g', cap', h, _, _, _, _, hc, _⟩
  · cases h
  · cases h
    have hl := (List.getElem?_eq_some_iff.1 hi).1
    rw [hc i hl]
    simp [List.getD_eq_getElem?_getD, hi]

/-- A slice value from which the cells ys can be read. -/
def SrcV (w : World) (u : Value) (ys : List Value) : Prop :=
  (u = .slice none 0 0 ∧ ys = []) ∨ ∃ ad c, u = .slice (some ad) ys.length c ∧ ∀ j x, ys[j]? = some x → w.cell? (ad.add j) = some x

theorem SrcV.keep {w w' : World} {u : Value} {ys : List Value} (h : SrcV w u ys) (hb : Below w.heap.size w w') : SrcV w' u ys := by
  rcases h with h | ⟨ad, c, h1, h2⟩
  · exact .inl h
  · refine .inr ⟨ad, c, h1, fun j x hj => ?_⟩
    have hc := h2 j x hj
    exact (hb.cell (World.block_lt_of_cell? w _ hc)).trans hc

theorem wpList_appSrc {P : Program} {w : World} {ops : Array Oper} {rest : List Oper} {o : Oper} {a : Act} {Q : Exit → Act → World → Prop} (hgd : o.guard = none) (s x : Operand) (t : TypeId)
    (ho : o.op = .call { callee := .builtin .append, args := #[s, x], argTypes := #[t, t] })
    (base : Nat) (e : TypeId) (i : TypeInfo) (z : Value) (bytes : Nat) (ht : P.underlying t = some (.slice e)) (hi : P.info? e = some i) (hz : i.zero = some z)
    (hsize : i.size = 1) (hby : i.bytes = bytes) (hzs : z.cells.size = 1)
    (v : Value) (n : Nat) (xs : List Value) (hs : a.eval s = v) (hown : w.ownsRow base e 1 v n xs)
    (u : Value) (ys : List Value) (hx : a.eval x = u) (hsrc : SrcV w u ys) (h1 : ∀ y ∈ ys, y.oneCell' = true)
    (h63 : n + ys.length ≤ maxLen) (hbytes : (n + ys.length) * bytes ≤ 140737488355328) (hbase : base ≤ w.heap.size)
    (h : ∀ v' w', w'.ownsRow base e 1 v' (n + ys.length) (xs ++ ys) → Below base w w' → (v' = .slice none 0 0 → v = .slice none 0 0) → wpList P ops Q rest (a.put o.dst v') w') : wpList P ops Q (o :: rest) a w := by
  rcases hsrc with ⟨rfl, rfl⟩ | ⟨ad, c, rfl, hc⟩
  · refine wpList_append_own_none hgd s x t ho base e i 1 ht hi v n xs hs hown hx ?_
    exact h v w (by simpa using hown) (Below.refl _ _) id
  · refine wpList_append_own w hgd s x t ho base e i z 1 bytes ht hi hz hsize hby hzs (by decide) v n xs hs hown ad ys.length c ys hx (by simp) hc h1 h63 hbytes hbase ?_
    intro v' w' hown' hg hn
    exact h v' w' hown' ((Below.refl base w).grown hg hbase (fun k hk => ownsRow_ge hown k hk)) (fun e => (hn.1 e).1)

theorem row_shape {w : World} {base : Nat} {e : TypeId} {size : Nat} {v : Value} {n : Nat} {xs : List Value} (h : w.ownsRow base e size v n xs) (hn : v ≠ .slice none 0 0) : ∃ g cap, v = .slice (some ⟨g, 0, none⟩) n cap ∧ base ≤ g := by
  rcases h.2 with ⟨hv, _⟩ | ⟨g, cap, cur, hv, hb, _⟩
  · exact absurd hv hn
  · exact ⟨g, cap, hv, hb⟩

/-- An empty slice in a block of its own. -/
theorem ownsRow_empty (w : World) (e : TypeId) : (w.alloc (.cells #[] e (0, 0))).ownsRow w.heap.size e 1 (.slice (some ⟨w.heap.size, 0, none⟩) 0 0) 0 [] :=
  World.ownsRow_made w #[] 0 (Nat.le_refl _) (Nat.zero_le _) rfl

/-- The parts of a slice of the call's own, as sources. -/
theorem src_take {base : Nat} {w : World} {e : TypeId} {g n cap : Nat} {xs : List Value} (h : w.ownsRow base e 1 (.slice (some ⟨g, 0, none⟩) n cap) n xs) (k : Nat) (hk : k ≤ n) (c : Nat) : SrcV w (.slice (some ⟨g, 0, none⟩) k c) (xs.take k) := by
  have hl := h.1
  refine .inr ⟨_, c, by rw [List.length_take]; congr 1; omega, fun j x hj => ?_⟩
  have hj' := (List.getElem?_eq_some_iff.1 hj).1
  rw [List.length_take] at hj'
  rw [List.getElem?_take_of_lt (by omega)] at hj
  rw [addr_add, World.ownsRow.cellAt h j (by omega)]
  exact hj
theorem src_drop {base : Nat} {w : World} {e : TypeId} {g n cap : Nat} {xs : List Value} (h : w.ownsRow base e 1 (.slice (some ⟨g, 0, none⟩) n cap) n xs) (k : Nat) (hk : k ≤ n) (c : Nat) : SrcV w (.slice (some ⟨g, k, none⟩) (n - k) c) (xs.drop k) := by
  have hl := h.1
  refine .inr ⟨_, c, by rw [List.length_drop]; congr 1; omega, fun j x hj => ?_⟩
  have hj' := (List.getElem?_eq_some_iff.1 hj).1
  rw [List.length_drop] at hj'
  rw [List.getElem?_drop] at hj
  have ea : (⟨g, k, none⟩ : Addr).add j = ⟨g, k + j, none⟩ := by
    unfold Addr.add
    split
    · next h0 => rw [h0]; simp
    · rfl
  rw [ea, World.ownsRow.cellAt h (k + j) (by omega)]
  exact hj
theorem src_cells {b1 : Nat} {w : World} {g n cap : Nat} {xs : List ByteArray} (h : CellsS b1 w (.slice (some ⟨g, 0, none⟩) n cap) xs) (k : Nat) (hk : k ≤ xs.length) (c : Nat) : SrcV w (.slice (some ⟨g, 0, none⟩) k c) ((xs.take k).map Value.string) := by
  rcases h with ⟨h, _⟩ | ⟨g', cap', h, _, _, _, _, hc, _⟩
  · cases h
  · cases h
    refine .inr ⟨_, c, by rw [List.length_map, List.length_take]; congr 1; omega, fun j x hj => ?_⟩
    have hj' := (List.getElem?_eq_some_iff.1 hj).1
    rw [List.length_map, List.length_take] at hj'
    rw [List.getElem?_map, List.getElem?_take_of_lt (by omega), List.getElem?_eq_getElem (by omega)] at hj
    have hx := hc j (by omega)
    rw [List.getD_eq_getElem?_getD, List.getElem?_eq_getElem (by omega)] at hx
    rw [addr_add, hx]
    exact hj
theorem src_end {w : World} (a : Option Addr) (c : Nat) (h : a = none → c = 0) : SrcV w (.slice a 0 c) [] := by
  cases a with
  | none => rw [h rfl]; exact .inl ⟨rfl, rfl⟩
  | some ad => exact .inr ⟨ad, c, rfl, fun j x hj => by simp at hj⟩
end Go.Proofs.YtplmbdljhgicfaaDoor

/-! In0 -/
namespace Go.Proofs.YtplmbdljhgicfaaDoor
open Go.RowKit

theorem l1In_yes (n lo hi : Int) (w : World) (h1 : lo ≤ n) (h2 : n ≤ hi) :
    Calls Tryd.prog 56 #[.int .i64 n, .int .i64 lo, .int .i64 hi] w fun e w' => e = .returned (.bool true) ∧ w = w' := by
  go_enter Tryd.func56, Tryd.ntmps56
  go_wp2_with fail
  go_ret
  exact ⟨rfl, rfl⟩
theorem l1In_no (n lo hi : Int) (w : World) (h : n < lo ∨ hi < n) :
    Calls Tryd.prog 56 #[.int .i64 n, .int .i64 lo, .int .i64 hi] w fun e w' => e = .returned (.bool false) ∧ w = w' := by
  by_cases h1 : n < lo
  · clear h
    go_enter Tryd.func56, Tryd.ntmps56
    go_wp2_with fail
    go_ret
    exact ⟨rfl, rfl⟩
  · have h1' : lo ≤ n := by omega
    have h2 : hi < n := by omega
    clear h h1
    go_enter Tryd.func56, Tryd.ntmps56
    go_wp2_with fail
    go_ret
    exact ⟨ret_bool (by simp; omega), rfl⟩

end Go.Proofs.YtplmbdljhgicfaaDoor

/-! TeS -/
namespace Go.Proofs.YtplmbdljhgicfaaDoor
open Go.RowKit

theorem comb_all (s : List Tr) : (combT s).carets = sumT s + s.length := by
  induction s with
  | nil => rfl
  | cons t s ih => rw [combT, sumT_cons, List.length_cons]; simp only [Tr.carets]; omega
theorem sumT_drop (s : List Tr) (k : Nat) : sumT (s.drop k) ≤ sumT s := by
  have := sumT_app (s.take k) (s.drop k)
  rw [List.take_append_drop] at this; omega
def strs (s : List Tr) : List ByteArray := s.map Tr.str
theorem strs_length (s : List Tr) : (strs s).length = s.length := by simp [strs]
theorem oneStrs (ys : List ByteArray) : ∀ u ∈ ys.map Value.string, u.oneCell' = true := by
  intro u hu
  obtain ⟨x, _, rfl⟩ := List.mem_map.1 hu
  rfl

end Go.Proofs.YtplmbdljhgicfaaDoor

/-! Ff1 -/
namespace Go.Proofs.YtplmbdljhgicfaaDoor
open Go.RowKit

theorem info_bool : (Tryd.prog.info? 4).map (fun i => (i.zero, i.size, i.bytes)) = some (some (.bool false), 1, 1) := by kernel_rfl
/-- Slices of truths that a call has made. -/
def OwnB (base : Nat) (w : World) (v : Value) (xs : List Bool) : Prop := w.ownsRow base 4 1 v xs.length (xs.map Value.bool)
theorem OwnB.keep {base : Nat} {w w' : World} {v : Value} {xs : List Bool} (h : OwnB base w v xs) (hb : Below w.heap.size w w') : OwnB base w' v xs := ownsRow_keep h hb
theorem OwnB.nil (base : Nat) (w : World) : OwnB base w (.slice none 0 0) [] := World.ownsRow_nil _ _ _ _
def CellsB (base : Nat) (w : World) (v : Value) (xs : List Bool) : Prop :=
  ∃ oa cap, v = .slice oa xs.length cap ∧ xs.length ≤ cap ∧ cap ≤ maxLen ∧ ∀ i, i < xs.length → ∃ g, oa = some ⟨g, 0, none⟩ ∧ base ≤ g ∧ g < w.heap.size ∧ w.cell? ⟨g, i, none⟩ = some (.bool (xs.getD i false))
theorem OwnB.cells {base : Nat} {w : World} {v : Value} {xs : List Bool} (h : OwnB base w v xs) : CellsB base w v xs := by
  rcases h.2 with ⟨hv, hn⟩ | ⟨g, cap, cur, hv, hb, hr⟩
  · exact ⟨none, 0, by rw [hv, hn], by omega, by unfold maxLen; omega, fun i hi => by omega⟩
  · subst hv
    have hlt := World.ownsRow.lt h g rfl
    have hc := fun i (hi : i < xs.length) => World.ownsRow.cellAt h i (by omega)
    refine ⟨some ⟨g, 0, none⟩, cap, rfl, ?_, ?_, fun i hi => ⟨g, rfl, hlt.1, hlt.2, ?_⟩⟩
    · exact hr.2.1
    · exact hr.2.2.1
    · rw [hc i hi]; simp [List.getElem?_eq_getElem hi]
theorem oneB1 (b : Bool) : ∀ u ∈ [Value.bool b], u.oneCell' = true := by intro u hu; simp at hu; subst hu; rfl
theorem OwnB.snoc {base : Nat} {w : World} {v : Value} {xs : List Bool} {b : Bool} (h : w.ownsRow base 4 1 v (xs.length + 1) (xs.map Value.bool ++ [Value.bool b])) : OwnB base w v (xs ++ [b]) := by
  unfold OwnB; rw [List.length_append, List.map_append]; exact h

theorem implIsTree_b (s : ByteArray) (w : World) (hs : s.size ≤ 9223372036854775806) :
    Calls Tryd.prog 35 #[.string s] w (Gives (.bool (treeOf s).isSome) w) := by
  cases h : treeOf s with
  | none => exact (implIsTree_no s w hs h).mono fun e w' ⟨hb, he⟩ => ⟨he, hb⟩
  | some t =>
    obtain ⟨rfl, hc⟩ := treeOf_some h
    exact (implIsTree_yes t w hc).mono fun e w' ⟨hb, he⟩ => ⟨he, hb⟩

def okTs (L : List ByteArray) : List Bool := L.map fun s => (treeOf s).isSome
theorem okTs_snoc {L : List ByteArray} {k : Nat} (h : k < L.length) : okTs (L.take (k + 1)) = okTs (L.take k) ++ [(treeOf (L.getD k ⟨#[]⟩)).isSome] := by
  unfold okTs
  rw [List.take_succ_eq_append_getElem h, List.map_append]
  simp [h]
/-- A call that hands back truths of its own. -/
def GivesB (xs : List Bool) (w : World) (e : Ending) (w' : World) : Prop := ∃ v, OwnB w.heap.size w' v xs ∧ Below w.heap.size w w' ∧ e = .returned v

set_option maxRecDepth 100000 in
set_option maxHeartbeats 2000000 in
theorem listOfTree_any (v : Value) (b : Nat) (L : List ByteArray) (w : World) (h : CellsS b w v L) (hz : ∀ s ∈ L, s.size ≤ 1048576) (hn : L.length ≤ 8)
    (hcall : ∀ (args : Array Value) (w : World), (callFunc 35 args).run Tryd.prog w = .ok (.enter 35 args) w) :
    Calls Tryd.prog 34 #[v, .func (Fn.func 35) #[] #[]] w (GivesB (okTs L) w) := by
  obtain ⟨i0, hi, hz0, hz1, hz2⟩ := info_parts info_bool
  obtain ⟨oa, cap, rfl, hcl, hcm, hcc⟩ := h.form0
  unfold maxLen at hcm
  have HC := Lib.hid hcc
  have HZ := Lib.hid hz
  clear h hcc hz
  go_enter Tryd.func34, Tryd.ntmps34
  go_wp2_with fail
  go_loopw [5, 10] (fun v i wr => ∃ k : Nat, k ≤ L.length ∧ i = .int .i64 k ∧ OwnB w.heap.size wr v (okTs (L.take k)) ∧ Below w.heap.size w wr) (fun _ i _ => L.length - (intOf i).toNat)
  case atStart => exact ⟨0, Nat.zero_le _, rfl, OwnB.nil _ _, Below.refl _ _⟩
  case round =>
    obtain ⟨k, hk, rfl, hown, hbw⟩ := hrel
    by_cases hlt : k < L.length
    · have hlt' : (k : Int) < (L.length : Int) := by omega
      have hlen : (okTs (L.take k)).length = k := by simp [okTs]; omega
      obtain ⟨g, rfl, _, hgl, c0⟩ := HC.out k hlt
      have c1 := (hbw.cell (p := ⟨g, k, none⟩) hgl).trans c0
      have hsz := HZ.out (L.getD k ⟨#[]⟩) (by rw [List.getD_eq_getElem?_getD, List.getElem?_eq_getElem hlt]; exact List.getElem_mem hlt)
      have hnext := okTs_snoc hlt
      obtain ⟨xs, hxs⟩ : ∃ xs, xs = okTs (L.take k) := ⟨_, rfl⟩
      rw [← hxs] at hown hlen hnext
      have hT := fun w => implIsTree_b (L.getD k ⟨#[]⟩) w (by omega)
      generalize L.getD k ⟨#[]⟩ = s at *
      generalize (treeOf s).isSome = x at *
      have HN := Lib.hid hnext
      have hxl : xs.length ≤ 8 := by omega
      unfold OwnB at hown
      clear hnext hxs hlen hsz c0
      go_wp2_with fail
      refine (hT _).mono ?_; rintro e w3 ⟨rfl, hb3⟩
      have hown3 := ownsRow_keep hown hb3
      have hbw3 := nx hbw hb3
      clear hown hbw hb3
      go_wp2_with (at_builtin; refine wpList_append_own _ rfl _ _ 47 rfl w.heap.size 4 i0 (.bool false) 1 1 Tryd.underlying47 hi hz0 hz1 hz2 rfl (by decide) _ _ _ rfl (hown3.alloc _) ⟨w3.heap.size, 0, none⟩ 1 1 [.bool x] rfl rfl (new1 _ _ _) (oneB1 _) (by unfold maxLen; omega) (by omega) (size_al hbw3 _) ?_; intro v' w9 hown' hgrow hnn)
      have hbw9 := below_app hbw3 hown3 (Nat.le_refl _) hgrow
      have hown1 := OwnB.snoc hown'
      clear hown3 hown' hgrow hbw3 hnn
      go_wp2_with fail
      go_roundw
      case rel => exact ⟨k + 1, by omega, by go_num, by rw [HN.out]; exact hown1, hbw9⟩
      case measure => simp [intOf]; omega
    · obtain rfl : k = L.length := by omega
      rw [List.take_of_length_le (Nat.le_refl _)] at hown
      go_wp2_with fail
      go_ret
      exact ⟨_, hown, hbw, rfl⟩

/-- A place, or -1 where there is none. -/
def IndexB (xs : List Bool) (w : World) (e : Ending) (w' : World) : Prop := ∃ r : Int, e = .returned (.int .i64 r) ∧ -1 ≤ r ∧ r ≤ 8 ∧ Hid (decide (0 ≤ r) = xs.contains false) ∧ w = w'
theorem contains_take {xs : List Bool} {k : Nat} (h : k < xs.length) (hx : xs.getD k false = true) (hp : (xs.take k).contains false = false) : (xs.take (k + 1)).contains false = false := by
  rw [List.take_succ_eq_append_getElem h]
  rw [List.getD_eq_getElem?_getD, List.getElem?_eq_getElem h, Option.getD_some] at hx
  rw [hx]
  simpa using hp

set_option maxRecDepth 100000 in
set_option maxHeartbeats 2000000 in
theorem indexB_any (v : Value) (b : Nat) (xs : List Bool) (w : World) (h : CellsB b w v xs) (hn : xs.length ≤ 8) :
    Calls Tryd.prog 45 #[v, .bool false] w (IndexB xs w) := by
  obtain ⟨oa, cap, rfl, hcl, hcm, hcc⟩ := h
  unfold maxLen at hcm
  have HC := Lib.hid hcc
  clear hcc
  go_enter Tryd.func45, Tryd.ntmps45
  go_wp2_with fail
  go_loopw [8] (fun i wr => ∃ j : Nat, j ≤ xs.length ∧ i = .int .i64 j ∧ Hid ((xs.take j).contains false = false) ∧ wr = w) (fun i _ => xs.length - (intOf i).toNat)
  case atStart => exact ⟨0, by omega, rfl, by show (List.take 0 xs).contains false = false; simp, rfl⟩
  case round =>
    obtain ⟨j, hj, rfl, hp, rfl⟩ := hrel
    by_cases hlt : j < xs.length
    · have hlt' : (j : Int) < (xs.length : Int) := by omega
      obtain ⟨g, rfl, _, hgl, c1⟩ := HC.out j hlt
      cases hx : xs.getD j false with
      | true =>
        have HN : Hid ((xs.take (j + 1)).contains false = false) := contains_take hlt hx hp.out
        rw [hx] at c1
        clear hx hp
        go_wp2_with fail
        go_roundw
        case rel => exact ⟨j + 1, by omega, by go_num, HN, trivial⟩
        case measure => simp [intOf]; omega
      | false =>
        have HE : Hid (decide (0 ≤ (j : Int)) = xs.contains false) := by
          have hm : false ∈ xs := by
            rw [List.getD_eq_getElem?_getD, List.getElem?_eq_getElem hlt, Option.getD_some] at hx
            rw [← hx]; exact List.getElem_mem hlt
          show decide (0 ≤ (j : Int)) = xs.contains false
          rw [decide_eq_true (by omega)]
          simpa using hm
        rw [hx] at c1
        clear hx hp
        go_wp2_with fail
        go_ret
        exact ⟨_, rfl, by omega, by omega, HE, rfl⟩
    · obtain rfl : j = xs.length := by omega
      have HE : Hid (decide (0 ≤ (-1 : Int)) = xs.contains false) := by
        have h1 := hp.out
        rw [List.take_of_length_le (Nat.le_refl _)] at h1
        show decide (0 ≤ (-1 : Int)) = xs.contains false
        rw [h1]; decide
      clear hp
      go_wp2_with fail
      go_ret
      exact ⟨_, rfl, by omega, by omega, HE, rfl⟩

set_option maxRecDepth 100000 in
theorem containsB_any (v : Value) (b : Nat) (xs : List Bool) (w : World) (h : CellsB b w v xs) (hn : xs.length ≤ 8) :
    Calls Tryd.prog 33 #[v, .bool false] w fun e w' => e = .returned (.bool (xs.contains false)) ∧ w = w' := by
  have hi := indexB_any v b xs w h hn
  obtain ⟨oa, cap, rfl, _⟩ := h
  go_enter Tryd.func33, Tryd.ntmps33
  go_wp2_with fail
  refine hi.mono ?_; rintro e w1 ⟨r, rfl, h1, h2, hr, rfl⟩
  clear hi
  go_wp2_with fail
  go_ret
  exact ⟨ret_bool hr.out, rfl⟩

set_option maxRecDepth 100000 in
set_option maxHeartbeats 2000000 in
theorem caretsIn_any (v : Value) (b : Nat) (us : List Tr) (w : World) (h : CellsS b w v (strs us)) (hs : sumT us ≤ 1000) (_hn : us.length ≤ 1000) :
    Calls Tryd.prog 36 #[v] w (Gives (.int .i64 (sumT us)) w) := by
  obtain ⟨oa, cap, rfl, hcl, hcm, hcc⟩ := h.form0
  unfold maxLen at hcm
  rw [strs_length] at *
  have HC := Lib.hid hcc
  have HS := Lib.hid hs
  clear h hcc hs
  go_enter Tryd.func36, Tryd.ntmps36
  go_wp2_with fail
  go_loopw [3, 8] (fun c i wr => ∃ k n : Nat, k ≤ us.length ∧ i = .int .i64 k ∧ c = .int .i64 n ∧ Hid (n = sumT (us.take k)) ∧ n ≤ 1000 ∧ Below w.heap.size w wr) (fun _ i _ => us.length - (intOf i).toNat)
  case atStart => exact ⟨0, 0, Nat.zero_le _, rfl, rfl, rfl, by omega, Below.refl _ _⟩
  case round =>
    obtain ⟨k, n, hk, rfl, rfl, he, hnn, hbw⟩ := hrel
    by_cases hlt : k < us.length
    · have hlt' : (k : Int) < (us.length : Int) := by omega
      obtain ⟨g, rfl, _, hgl, c0⟩ := HC.out k hlt
      have c1 := (hbw.cell (p := ⟨g, k, none⟩) hgl).trans c0
      have hstep : sumT (us.take (k + 1)) = sumT (us.take k) + (us.getD k .lf).carets := by
        rw [List.take_succ_eq_append_getElem hlt, sumT_app]
        simp [sumT, hlt]
      have hle : sumT (us.take (k + 1)) ≤ sumT us := by
        have := sumT_app (us.take (k + 1)) (us.drop (k + 1))
        rw [List.take_append_drop] at this; omega
      rw [show (strs us).getD k ⟨#[]⟩ = (us.getD k .lf).str from map_getD us k hlt] at c1
      generalize us.getD k .lf = t at *
      have hsum := HS.out
      have hnew : n + t.carets = sumT (us.take (k + 1)) := by have := he.out; omega
      have HN := Lib.hid hnew
      have hct : t.carets ≤ 1000 := by omega
      have hnt : n + t.carets ≤ 1000 := by omega
      have hC := fun w => countCarets_any t w hct
      clear hstep hle hsum hnew he c0
      go_wp2_with fail
      refine (hC _).mono ?_; rintro e w3 ⟨rfl, hb3⟩
      go_wp2_with fail
      go_roundw
      case rel => exact ⟨k + 1, n + t.carets, by omega, by go_num, by go_num, HN, by omega, nx hbw hb3⟩
      case measure => simp [intOf]; omega
    · obtain rfl : k = us.length := by omega
      have h1 := he.out
      rw [List.take_of_length_le (Nat.le_refl _)] at h1
      have HE := Lib.hid h1
      clear he h1
      go_wp2_with fail
      go_ret
      exact ⟨by rw [HE.out]; rfl, hbw⟩
end Go.Proofs.YtplmbdljhgicfaaDoor

/-! Ff3 -/
namespace Go.Proofs.YtplmbdljhgicfaaDoor
open Go.RowKit

theorem okTs_contains {L : List ByteArray} : (okTs L).contains false = (treesOf L).isNone := by
  induction L with
  | nil => rfl
  | cons s L ih =>
    show ((treeOf s).isSome :: okTs L).contains false = _
    rw [List.contains_cons, ih, treesOf]
    cases treeOf s with
    | none => rfl
    | some t => cases treesOf L <;> rfl

set_option maxRecDepth 100000 in
set_option maxHeartbeats 400000 in
theorem implIsForest_b (v : Value) (b : Nat) (L : List ByteArray) (w : World) (h : CellsS b w v L) (hz : ∀ s ∈ L, s.size ≤ 1048576) (_hn : L.length ≤ 1048576) :
    Calls Tryd.prog 20 #[v] w (Gives (.bool (forOf L).isSome) w) := by
  have hcall : ∀ (args : Array Value) (w : World), (callFunc 35 args).run Tryd.prog w = .ok (.enter 35 args) w := by intro args w; rfl
  have HH := Lib.hid h
  obtain ⟨oa, cap, rfl, hcl, hcm, hcc⟩ := h.form0
  unfold maxLen at hcm
  have HC := Lib.hid hcc
  clear h hcc
  by_cases h8 : (8 : Int) < L.length
  · rw [forOf_long (L := L) (by omega)]
    show Calls _ _ _ _ (Gives (.bool false) w)
    clear hz
    go_enter Tryd.func20, Tryd.ntmps20
    go_wp2_with fail
    go_ret
    exact ⟨rfl, Below.refl _ _⟩
  · have hl8 : L.length ≤ 8 := by omega
    have hL := fun w h => listOfTree_any (.slice oa L.length cap) b L w h hz hl8 hcall
    have hlen : (okTs L).length ≤ 8 := by simp [okTs]; omega
    have hcon := okTs_contains (L := L)
    cases ht : treesOf L with
    | none =>
      rw [show forOf L = none by unfold forOf; rw [ht]; rfl]
      rw [ht] at hcon
      show Calls _ _ _ _ (Gives (.bool false) w)
      generalize okTs L = xs at hL hlen hcon
      have HX := Lib.hid hcon
      clear hcon ht hz hcall
      go_enter Tryd.func20, Tryd.ntmps20
      go_wp2_with fail
      refine (hL _ HH.out).mono ?_; rintro e w1 ⟨v1, own1, hb1, rfl⟩
      go_wp2_with fail
      refine (containsB_any v1 _ xs _ own1.cells hlen).mono ?_; rintro e w2 ⟨rfl, rfl⟩
      rw [HX.out]
      go_wp2_with fail
      go_ret
      exact ⟨rfl, hb1⟩
    | some us =>
      have hus := (treesOf_some L us ht).1
      have hul := treesOf_length ht
      have hcar : ∀ u ∈ us, u.carets ≤ 8 := (treesOf_some L us ht).2
      have hsum : sumT us ≤ 8 * us.length := by
        clear hus hul ht
        induction us with
        | nil => simp [sumT]
        | cons u us ih =>
          have h1 := hcar u (by simp)
          have h2 := ih (fun x hx => hcar x (by simp [hx]))
          rw [sumT_cons, List.length_cons]; omega
      rw [ht] at hcon
      have hC := fun w h => caretsIn_any (.slice oa L.length cap) b us w h (by omega) (by omega)
      have hcs : ∀ w, CellsS b w (.slice oa L.length cap) L → CellsS b w (.slice oa L.length cap) (strs us) := fun w h => by rw [show strs us = L from hus.symm]; exact h
      have hres : L.length = 0 ∨ ((L.getD (L.length - 1) ⟨#[]⟩).toList == [46]) = false → (forOf L).isSome = decide (sumT us ≤ 8) := fun k => forOf_of ht hl8 k
      have hdot : 0 < L.length → ((L.getD (L.length - 1) ⟨#[]⟩).toList == [46]) = true → forOf L = none := fun a b => forOf_dot a b
      have hsb : sumT us ≤ 1000 := by omega
      have HR := Lib.hid hres
      have HD := Lib.hid hdot
      have HSC := Lib.hid hcs
      generalize okTs L = xs at hL hlen hcon
      generalize sumT us = n at *
      have HX := Lib.hid hcon
      clear hcon ht hz hcall hus hul hcar hsum hres hdot hcs
      by_cases hn8 : (n : Int) ≤ 8
      rotate_left
      · have HF : Hid ((forOf L).isSome = false) := by
          show (forOf L).isSome = false
          by_cases h0 : L.length = 0
          · rw [HR.out (.inl h0)]; simp; omega
          · cases hx : ((L.getD (L.length - 1) ⟨#[]⟩).toList == [46]) with
            | true => rw [HD.out (by omega) hx]; rfl
            | false => rw [HR.out (.inr hx)]; simp; omega
        clear HR HD HC
        go_enter Tryd.func20, Tryd.ntmps20
        go_wp2_with fail
        refine (hL _ HH.out).mono ?_; rintro e w1 ⟨v1, own1, hb1, rfl⟩
        go_wp2_with fail
        refine (containsB_any v1 _ xs _ own1.cells hlen).mono ?_; rintro e w2 ⟨rfl, rfl⟩
        rw [HX.out]
        go_wp2_with fail
        refine (hC _ (HSC.out _ (HH.out.keep hb1))).mono ?_; rintro e w3 ⟨rfl, hb3⟩
        go_wp2_with fail
        go_ret
        exact ⟨by rw [HF.out]; rfl, nx hb1 hb3⟩
      by_cases h0 : L.length = 0
      · have HF : Hid ((forOf L).isSome = true) := by show (forOf L).isSome = true; rw [HR.out (.inl h0)]; simp; omega
        have hd0 : ((L.length : Int) == 0) = true := by simp [h0]
        clear HR HD HC h0
        go_enter Tryd.func20, Tryd.ntmps20
        go_wp2_with fail
        refine (hL _ HH.out).mono ?_; rintro e w1 ⟨v1, own1, hb1, rfl⟩
        go_wp2_with fail
        refine (containsB_any v1 _ xs _ own1.cells hlen).mono ?_; rintro e w2 ⟨rfl, rfl⟩
        rw [HX.out]
        go_wp2_with fail
        refine (hC _ (HSC.out _ (HH.out.keep hb1))).mono ?_; rintro e w3 ⟨rfl, hb3⟩
        go_wp2_with fail
        go_ret
        exact ⟨by rw [HF.out]; rfl, nx hb1 hb3⟩
      · have hp0 : 0 < L.length := by omega
        have hd0 : ((L.length : Int) == 0) = false := by rw [beq_eq_false_iff_ne]; omega
        obtain ⟨g, rfl, _, hgl, c0⟩ := HC.out (L.length - 1) (by omega)
        have ei : (L.length : Int) - 1 = ((L.length - 1 : Nat) : Int) := by omega
        have hi9 : L.length - 1 < L.length := by omega
        have HRR := HR.out
        have HDD := HD.out
        generalize L.getD (L.length - 1) ⟨#[]⟩ = x at *
        obtain ⟨m, hm⟩ : ∃ m, m = L.length - 1 := ⟨_, rfl⟩
        rw [← hm] at c0 ei hi9
        have HM := Lib.hid hm
        clear hm HR HD HC h0
        have hd1 : (0 : Int) ≤ (m : Int) := by omega
        have hd2 : (m : Int) < (L.length : Int) := by omega
        cases hx : (x.toList == [46]) with
        | true =>
          have HF : Hid ((forOf L).isSome = false) := by show (forOf L).isSome = false; rw [HDD hp0 hx]; rfl
          clear HRR HDD
          go_enter Tryd.func20, Tryd.ntmps20
          go_wp2_with fail
          refine (hL _ HH.out).mono ?_; rintro e w1 ⟨v1, own1, hb1, rfl⟩
          go_wp2_with fail
          refine (containsB_any v1 _ xs _ own1.cells hlen).mono ?_; rintro e w2 ⟨rfl, rfl⟩
          rw [HX.out]
          go_wp2_with fail
          refine (hC _ (HSC.out _ (HH.out.keep hb1))).mono ?_; rintro e w3 ⟨rfl, hb3⟩
          have c1 := ((nx hb1 hb3).cell (p := ⟨g, m, none⟩) hgl).trans c0
          go_wp2_with fail
          go_ret
          exact ⟨by rw [HF.out]; rfl, nx hb1 hb3⟩
        | false =>
          have HF : Hid ((forOf L).isSome = true) := by show (forOf L).isSome = true; rw [HRR (.inr hx)]; simp; omega
          clear HRR HDD
          go_enter Tryd.func20, Tryd.ntmps20
          go_wp2_with fail
          refine (hL _ HH.out).mono ?_; rintro e w1 ⟨v1, own1, hb1, rfl⟩
          go_wp2_with fail
          refine (containsB_any v1 _ xs _ own1.cells hlen).mono ?_; rintro e w2 ⟨rfl, rfl⟩
          rw [HX.out]
          go_wp2_with fail
          refine (hC _ (HSC.out _ (HH.out.keep hb1))).mono ?_; rintro e w3 ⟨rfl, hb3⟩
          have c1 := ((nx hb1 hb3).cell (p := ⟨g, m, none⟩) hgl).trans c0
          go_wp2_with fail
          go_ret
          exact ⟨by rw [HF.out]; rfl, nx hb1 hb3⟩

/-- The trees of a forest, and what of a list that is none. -/
theorem forOf_none_or (L : List ByteArray) : forOf L = none ∨ ∃ us, forOf L = some us := by
  cases forOf L with
  | none => exact .inl rfl
  | some us => exact .inr ⟨us, rfl⟩

theorem trLeaf_raw (s : ByteArray) (w : World) : Calls Tryd.prog 28 #[.string s] w fun e w' => e = .returned (.bool (s.toList == [46])) ∧ w = w' := by
  go_enter Tryd.func28, Tryd.ntmps28
  go_wp2_with fail
  go_ret
  exact ⟨rfl, rfl⟩

set_option maxRecDepth 100000 in
set_option maxHeartbeats 2000000 in
theorem foGood_any (v : Value) (b : Nat) (L : List ByteArray) (w : World) (h : CellsS b w v L) (hz : ∀ s ∈ L, s.size ≤ 1048576) (_hn : L.length ≤ 1048576) :
    Calls Tryd.prog 17 #[v] w (Gives (.bool (forOf L).isSome) w) := by
  obtain ⟨oa, cap, rfl, hcl, hcm, hcc⟩ := h.form0
  unfold maxLen at hcm
  have HC := Lib.hid hcc
  have HZ := Lib.hid hz
  clear h hcc hz
  by_cases h8 : (8 : Int) < L.length
  · rw [forOf_long (L := L) (by omega)]
    show Calls _ _ _ _ (Gives (.bool false) w)
    go_enter Tryd.func17, Tryd.ntmps17
    go_wp2_with fail
    go_ret
    exact ⟨rfl, Below.refl _ _⟩
  · by_cases h0 : L.length = 0
    · obtain rfl := List.length_eq_zero_iff.1 h0
      rw [show (forOf []).isSome = true from rfl]
      clear HC HZ h0
      go_enter Tryd.func17, Tryd.ntmps17
      go_wp2_with fail
      go_loopw [3, 25] (fun c i wr => c = .int .i64 0 ∧ i = .int .i64 0 ∧ wr = w) (fun _ _ _ => 0)
      case atStart => exact ⟨rfl, rfl, rfl⟩
      case round =>
        obtain ⟨rfl, rfl, rfl⟩ := hrel
        go_wp2_with fail
        go_ret
        exact ⟨rfl, Below.refl _ _⟩
    · obtain ⟨g, rfl, _, hgl, c0⟩ := HC.out (L.length - 1) (by omega)
      have hp0 : (0 : Int) < (L.length : Int) := by omega
      have ei : (L.length : Int) - 1 = ((L.length - 1 : Nat) : Int) := by omega
      have hi9 : L.length - 1 < L.length := by omega
      have HDOT : ((L.getD (L.length - 1) ⟨#[]⟩).toList == [46]) = true → forOf L = none := fun hh => forOf_dot (by omega) hh
      have HOK : ∀ us, treesOf L = some us → ((L.getD (L.length - 1) ⟨#[]⟩).toList == [46]) = false → (forOf L).isSome = decide (sumT us ≤ 8) := fun us h1 h2 => forOf_of h1 (by omega) (.inr h2)
      have hT := fun w => trLeaf_raw (L.getD (L.length - 1) ⟨#[]⟩) w
      generalize L.getD (L.length - 1) ⟨#[]⟩ = x at *
      obtain ⟨m, hm⟩ : ∃ m, m = L.length - 1 := ⟨_, rfl⟩
      rw [← hm] at c0 ei hi9
      have hd1 : (0 : Int) ≤ (m : Int) := by omega
      have hd2 : (m : Int) < (L.length : Int) := by omega
      clear hm h0
      cases hx : (x.toList == [46]) with
      | true =>
        have HF : Hid (forOf L = none) := HDOT hx
        rw [hx] at hT
        clear HDOT HOK HC hx
        go_enter Tryd.func17, Tryd.ntmps17
        go_wp2_with fail
        refine (hT _).mono ?_; rintro e w1 ⟨rfl, rfl⟩
        go_wp2_with fail
        go_ret
        exact ⟨by rw [HF.out]; rfl, Below.refl _ _⟩
      | false =>
        rw [hx] at hT HOK
        have HK := Lib.hid HOK
        clear HDOT HOK hx
        go_enter Tryd.func17, Tryd.ntmps17
        go_wp2_with fail
        refine (hT _).mono ?_; rintro e w1 ⟨rfl, rfl⟩
        clear c0 hT
        go_wp2_with fail
        go_loopw [3, 25] (fun c i wr => ∃ (k n : Nat) (us : List Tr), k ≤ L.length ∧ i = .int .i64 k ∧ c = .int .i64 n ∧ Hid (treesOf (L.take k) = some us ∧ n = sumT us) ∧ n ≤ 8 * k ∧ wr = w) (fun _ i _ => L.length - (intOf i).toNat)
        case atStart => exact ⟨0, 0, [], Nat.zero_le _, rfl, rfl, ⟨rfl, rfl⟩, by omega, rfl⟩
        case round =>
          obtain ⟨k, n, us, hk, rfl, rfl, he, hnn, rfl⟩ := hrel
          by_cases hlt : k < L.length
          · have hlt' : (k : Int) < (L.length : Int) := by omega
            obtain ⟨g', eg, _, _, c1⟩ := HC.out k hlt
            obtain rfl : g = g' := by simpa using eg
            clear eg
            have hmem : L.getD k ⟨#[]⟩ ∈ L := by rw [List.getD_eq_getElem?_getD, List.getElem?_eq_getElem hlt]; exact List.getElem_mem hlt
            have hsz := HZ.out _ hmem
            have htk : L.take (k + 1) = L.take k ++ [L.getD k ⟨#[]⟩] := by rw [List.take_succ_eq_append_getElem hlt]; simp [hlt]
            have hbad : treeOf (L.getD k ⟨#[]⟩) = none → forOf L = none := fun hh => forOf_bad hmem hh
            generalize L.getD k ⟨#[]⟩ = s at *
            have hTR := fun w => trIs_any s w (by omega)
            rw [isTreeB_eq] at hTR
            cases ht : treeOf s with
            | none =>
              have HF : Hid (forOf L = none) := hbad ht
              rw [ht] at hTR
              have hTR' : ∀ w, Calls Tryd.prog 29 #[.string s] w fun e w' => e = .returned (.bool false) ∧ w = w' := hTR
              clear hTR hbad ht htk hmem he
              go_wp2_with fail
              refine (hTR' _).mono ?_; rintro e w2 ⟨rfl, rfl⟩
              go_wp2_with fail
              go_ret
              exact ⟨by rw [HF.out]; rfl, Below.refl _ _⟩
            | some t =>
              obtain ⟨rfl, hct⟩ := treeOf_some ht
              rw [ht] at hTR
              have hTR' : ∀ w, Calls Tryd.prog 29 #[.string t.str] w fun e w' => e = .returned (.bool true) ∧ w = w' := hTR
              have hnext := treesOf_snoc _ _ _ _ he.out.1 ht
              rw [← htk] at hnext
              have hsum : n + t.carets = sumT (us ++ [t]) := by rw [sumT_app, ← he.out.2]; simp [sumT]
              have HN : Hid (treesOf (L.take (k + 1)) = some (us ++ [t]) ∧ n + t.carets = sumT (us ++ [t])) := ⟨hnext, hsum⟩
              have hCT := fun w => carets_str t w (by omega)
              clear hTR hbad ht htk hmem he hnext hsum hsz
              go_wp2_with fail
              refine (hTR' _).mono ?_; rintro e w2 ⟨rfl, rfl⟩
              go_wp2_with fail
              refine (hCT _).mono ?_; rintro e w2 ⟨rfl, rfl⟩
              go_wp2_with fail
              go_roundw
              case rel => exact ⟨k + 1, n + t.carets, _, by omega, by go_num, by go_num, HN, by omega, trivial⟩
              case measure => simp [intOf]; omega
          · obtain rfl : k = L.length := by omega
            have h1 := he.out
            rw [List.take_of_length_le (Nat.le_refl _)] at h1
            have h2 := HK.out us h1.1 trivial
            rw [← h1.2] at h2
            have HF := Lib.hid h2
            clear h1 h2 he
            go_wp2_with fail
            go_ret
            exact ⟨ret_bool (by rw [HF.out]; exact decide_eq_decide.2 (by omega)), Below.refl _ _⟩
end Go.Proofs.YtplmbdljhgicfaaDoor

/-! FfQ -/
namespace Go.Proofs.YtplmbdljhgicfaaDoor

/-- The right comb. -/
def combR : Nat → Tr
  | 0 => .lf
  | n + 1 => .nd .lf (combR n)
theorem combR_carets (n : Nat) : (combR n).carets = n := by induction n with | zero => rfl | succ n ih => simp [combR, Tr.carets, ih]
theorem combR_exps (n : Nat) : ∀ m x : Int, x ∈ (combR n).exps m → x + 2 = m + (combR n).leaves := by
  induction n with
  | zero => intro m x h; simp [combR, Tr.exps] at h
  | succ n ih =>
    intro m x h
    rw [combR, Tr.exps] at h
    rw [combR, leaves_nd]
    simp only [List.mem_append] at h
    have hl : (Tr.lf).leaves = 1 := rfl
    rcases h with h | h | h
    · cases n with
      | zero => simp [combR, Tr.isLf] at h; subst h; simp [combR, Tr.leaves, Tr.carets]
      | succ n => simp [combR, Tr.isLf] at h
    · simp [Tr.exps] at h
    · have := ih _ _ h
      rw [hl] at this ⊢
      push_cast at this ⊢
      omega
theorem combT_exps (us : List Tr) : lastB us = true → ∀ m x : Int, x ∈ (combT us).exps m → x + 2 < m + (combT us).leaves := by
  induction us with
  | nil => intro _ m x h; simp [combT, Tr.exps] at h
  | cons u us ih =>
    intro h m x hx
    rw [combT, Tr.exps] at hx
    rw [combT, leaves_nd]
    simp only [List.mem_append] at hx
    by_cases hu : us = []
    · subst hu
      rw [lastB_one] at h
      have hlf : u.isLf = false := by simpa using h
      have hl : (combT []).leaves = 1 := rfl
      rcases hx with hx | hx | hx
      · simp [hlf] at hx
      · have := exps_range u _ _ hx; rw [hl]; omega
      · simp [combT, Tr.exps] at hx
    · rw [lastB_cons u hu] at h
      have h2 : 2 ≤ (combT us).leaves := by
        cases us with
        | nil => exact absurd rfl hu
        | cons v vs => rw [combT, leaves_nd]; have := leaves_pos v; have := leaves_pos (combT vs); omega
      have hnl : (combT us).isLf = false := by
        cases us with
        | nil => exact absurd rfl hu
        | cons v vs => rfl
      rcases hx with hx | hx | hx
      · simp [hnl] at hx
      · have := exps_range u _ _ hx; omega
      · have := ih h _ _ hx
        push_cast
        omega
/-- The pair of a forest. -/
def pairF (us : List Tr) : Pr := (combT us, combR (combT us).carets)
theorem pairF_ok (us : List Tr) : okP (pairF us) := by unfold okP pairF; rw [combR_carets]
theorem pairF_both (us : List Tr) (h : lastB us = true) : both (pairF us) = [] := by
  rw [List.eq_nil_iff_forall_not_mem]
  intro x hx
  obtain ⟨h1, h2⟩ := mem_both.1 hx
  have h3 := combT_exps us h _ _ h1
  have h4 := combR_exps _ _ _ h2
  unfold pairF at h2 h3
  have h5 : (combR (combT us).carets).leaves = (combT us).leaves := by unfold Tr.leaves; rw [combR_carets]
  omega
theorem pairF_red (us : List Tr) (h : lastB us = true) : red (pairF us) = pairF us := (red_self _).2 (pairF_both us h)
theorem combT_carets (us : List Tr) : (combT us).carets = sumT us + us.length := by
  induction us with
  | nil => rfl
  | cons u us ih => rw [combT, Tr.carets, ih, sumT_cons, List.length_cons]; omega

/-- The leaves of a forest's trees. -/
def leavesL (us : List Tr) : Nat := sumT us + us.length
theorem fillR_rest (t : Tr) : ∀ us : List Tr, (t.fillR us).2 = us.drop t.leaves := by
  induction t with
  | lf => intro us; cases us <;> rfl
  | nd l r ihl ihr => intro us; rw [Tr.fillR, leaves_nd]; show (r.fillR (l.fillR us).2).2 = _; rw [ihr, ihl, List.drop_drop]
theorem fillR_app (t : Tr) : ∀ (A B : List Tr), t.leaves ≤ A.length → (t.fillR (A ++ B)).1 = (t.fillR A).1 := by
  induction t with
  | lf => intro A B h; cases A with | nil => simp [Tr.leaves] at h | cons a A => rfl
  | nd l r ihl ihr =>
    intro A B h
    rw [leaves_nd] at h
    rw [Tr.fillR, Tr.fillR]
    show Tr.nd _ _ = Tr.nd _ _
    rw [ihl A B (by omega), fillR_rest, fillR_rest, List.drop_append_of_le_length (by omega), ihr _ B (by rw [List.length_drop]; omega)]
theorem fillR_lfs (t : Tr) : ∀ m : Nat, (t.fillR (List.replicate m .lf)).1 = t := by
  induction t with
  | lf => intro m; cases m <;> rfl
  | nd l r ihl ihr =>
    intro m
    rw [Tr.fillR]
    show Tr.nd _ _ = _
    rw [ihl, fillR_rest, List.drop_replicate, ihr]
theorem fillR_pad (t : Tr) : ∀ (us : List Tr) (m : Nat), (t.fillR (us ++ List.replicate m .lf)).1 = (t.fillR us).1 := by
  induction t with
  | lf => intro us m; cases us with | nil => cases m <;> rfl | cons u us => rfl
  | nd l r ihl ihr =>
    intro us m
    rw [Tr.fillR, Tr.fillR]
    show Tr.nd _ _ = Tr.nd _ _
    rw [ihl, fillR_rest, fillR_rest, List.drop_append, List.drop_replicate, ihr]
/-- The trees of a list with others in place of their leaves, in order. -/
def fillLs : List Tr → List Tr → List Tr
  | [], _ => []
  | u :: us, vs => (u.fillR vs).1 :: fillLs us (vs.drop u.leaves)
theorem fillLs_length (us : List Tr) : ∀ vs : List Tr, (fillLs us vs).length = us.length := by
  induction us with
  | nil => intro vs; rfl
  | cons u us ih => intro vs; simp [fillLs, ih]
theorem leavesL_cons (u : Tr) (us : List Tr) : leavesL (u :: us) = u.leaves + leavesL us := by
  unfold leavesL Tr.leaves; rw [sumT_cons, List.length_cons]; omega
theorem fillLs_app (us : List Tr) : ∀ (A B : List Tr), leavesL us ≤ A.length → fillLs us (A ++ B) = fillLs us A := by
  induction us with
  | nil => intro A B _; rfl
  | cons u us ih =>
    intro A B h
    rw [leavesL_cons] at h
    rw [fillLs, fillLs, fillR_app u A B (by omega), List.drop_append_of_le_length (by omega), ih _ B (by rw [List.length_drop]; omega)]
theorem fillLs_pad (us : List Tr) : ∀ (vs : List Tr) (m : Nat), fillLs us (vs ++ List.replicate m .lf) = fillLs us vs := by
  induction us with
  | nil => intro vs m; rfl
  | cons u us ih => intro vs m; rw [fillLs, fillLs, fillR_pad, List.drop_append, List.drop_replicate, ih]
theorem fillLs_take (us vs : List Tr) : fillLs us (vs.take (leavesL us)) = fillLs us vs := by
  by_cases h : leavesL us ≤ vs.length
  · have h1 := fillLs_app us (vs.take (leavesL us)) (vs.drop (leavesL us)) (by rw [List.length_take]; omega)
    rw [List.take_append_drop] at h1
    exact h1.symm
  · rw [List.take_of_length_le (by omega)]
/-- f with g stacked. -/
def stackF (us vs : List Tr) : List Tr := stripT (fillLs us vs ++ vs.drop (leavesL us))
/-- The tree with trees at the left sides of its right side, and another one at the end. -/
def combE (us : List Tr) (e : Tr) : Tr := us.foldr Tr.nd e
theorem combE_lf (us : List Tr) : combE us .lf = combT us := by
  induction us with
  | nil => rfl
  | cons u us ih => show Tr.nd u (combE us .lf) = _; rw [ih]; rfl
theorem sides_combE (us : List Tr) (e : Tr) : sidesT (combE us e) = us ++ sidesT e := by
  induction us with
  | nil => rfl
  | cons u us ih => show u :: sidesT (combE us e) = _; rw [ih]; rfl
theorem fillR_comb (us : List Tr) : ∀ vs : List Tr, ((combT us).fillR vs).1 = combE (fillLs us vs) ((vs.drop (leavesL us)).headD .lf) := by
  induction us with
  | nil => intro vs; cases vs <;> rfl
  | cons u us ih =>
    intro vs
    rw [combT, Tr.fillR, leavesL_cons]
    show Tr.nd _ _ = Tr.nd (u.fillR vs).1 _
    rw [ih, fillR_rest, List.drop_drop]
    rfl
/-- What hangs in the tree of f with the trees of g in place of its leaves. -/
theorem stack_hang (us vs : List Tr) (c : Nat) (hc : c = min (leavesL us) vs.length) :
    hangT ((combT us).fill (vs.take c ++ (List.replicate (leavesL us - c) .lf ++ [combT (vs.drop c)]))) = stackF us vs := by
  have hlen : (vs.take c ++ List.replicate (leavesL us - c) Tr.lf).length = leavesL us := by simp; omega
  unfold hangT stackF Tr.fill
  rw [← List.append_assoc, fillR_comb, fillLs_app us _ _ (by omega), fillLs_pad, List.drop_append_of_le_length (by omega), List.drop_of_length_le (by omega)]
  show stripT (sidesT (combE _ (combT (vs.drop c)))) = _
  rw [sides_combE, sides_comb]
  by_cases h : leavesL us ≤ vs.length
  · obtain rfl : c = leavesL us := by omega
    rw [fillLs_take]
  · obtain rfl : c = vs.length := by omega
    rw [List.take_of_length_le (by omega), List.drop_of_length_le (by omega), List.drop_of_length_le (by omega)]

/-- What the trees of h have at the leaves of those of f. -/
def quoF : List Tr → List Tr → List Tr
  | [], vs => vs
  | u :: us, [] => u.subs .lf ++ quoF us []
  | u :: us, v :: vs => u.subs v ++ quoF us vs
theorem subs_comb (us : List Tr) : ∀ vs : List Tr, lastB us = true → partF us vs = true → ∃ A E, (combT us).subs (combT vs) = A ++ [E] ∧ A ++ sidesT E = quoF us vs := by
  induction us with
  | nil => intro vs _ _; exact ⟨[], combT vs, by cases vs <;> rfl, by rw [sides_comb]; rfl⟩
  | cons u us ih =>
    intro vs h k
    cases vs with
    | nil => rw [partF_nil _ h (by simp)] at k; cases k
    | cons v vs =>
      rw [partF, Bool.and_eq_true] at k
      have hl : lastB us = true := by
        by_cases hu : us = []
        · subst hu; rfl
        · rwa [lastB_cons u hu] at h
      obtain ⟨A, E, h1, h2⟩ := ih vs hl k.2
      refine ⟨u.subs v ++ A, E, ?_, ?_⟩
      · show u.subs v ++ (combT us).subs (combT vs) = _
        rw [h1, List.append_assoc]
      · rw [List.append_assoc, h2]; rfl
end Go.Proofs.YtplmbdljhgicfaaDoor

/-! Ff4 -/
namespace Go.Proofs.YtplmbdljhgicfaaDoor
open Go.RowKit

def natO (o : Option (List Tr)) (f : List Tr → Nat) : Value := .tuple #[.int .i64 (match o with | some us => (f us : Int) | none => 0), .bool o.isSome]
theorem forOf_strs {L : List ByteArray} {us : List Tr} (h : forOf L = some us) : L = strs us ∧ us.length ≤ 8 ∧ sumT us ≤ 8 ∧ lastB us = true := forOf_some h

theorem implIsForest_any (v : Value) (b : Nat) (L : List ByteArray) (w : World) (h : CellsS b w v L) (hz : ∀ s ∈ L, s.size ≤ 1048576) (hn : L.length ≤ 1048576) :
    Calls Tryd.prog 20 #[v] w (Gives (.bool (forOf L).isSome) w) := implIsForest_b v b L w h hz hn
end Go.Proofs.YtplmbdljhgicfaaDoor

/-! BackS -/
namespace Go.Proofs.YtplmbdljhgicfaaDoor
open Go.RowKit Go.Shelf

attribute [local go_sem] Oper.semAt_some

/-- An index with the short text that stands there. -/
abbrev IxS := { p : Nat × ByteArray // p.2.size ≤ 1000 }
theorem getD_short {L : List ByteArray} (h : ∀ x ∈ L, x.size ≤ 1000) (k : Nat) : (L[k]?.getD ⟨#[]⟩).size ≤ 1000 := by
  by_cases hk : k < L.length
  · rw [List.getElem?_eq_getElem hk]; exact h _ (List.getElem_mem _)
  · rw [List.getElem?_eq_none (by omega)]; exact Nat.zero_le _
/-- What comes in the round number k. -/
def bkAtS (L : List ByteArray) (h : ∀ x ∈ L, x.size ≤ 1000) (k : Nat) : IxS := ⟨(L.length - 1 - k, L[L.length - 1 - k]?.getD ⟨#[]⟩), getD_short h _⟩
def bkToS (L : List ByteArray) (h : ∀ x ∈ L, x.size ≤ 1000) (k : Nat) : List IxS := (List.range k).map (bkAtS L h)
theorem bkToS_succ (L : List ByteArray) (h : ∀ x ∈ L, x.size ≤ 1000) (k : Nat) : bkToS L h (k + 1) = bkToS L h k ++ [bkAtS L h k] := by simp [bkToS, List.range_succ]
theorem bkToS_length (L : List ByteArray) (h : ∀ x ∈ L, x.size ≤ 1000) (k : Nat) : (bkToS L h k).length = k := by simp [bkToS]

/-- What the body of the loop must keep: what lay below n₀, and the slice's own box. -/
def KpS (n₀ Bs : Nat) (W W' : World) : Prop := Below n₀ W W' ∧ ∀ v, Boxed W Bs 22 v → Boxed W' Bs 22 v
theorem KpS.refl (n₀ Bs : Nat) (W : World) : KpS n₀ Bs W W := ⟨Below.refl _ _, fun _ h => h⟩
theorem KpS.trans {n₀ Bs : Nat} {A B C : World} (h : KpS n₀ Bs A B) (k : KpS n₀ Bs B C) : KpS n₀ Bs A C := ⟨h.1.trans k.1, fun v hv => k.2 v (h.2 v hv)⟩
theorem KpS.put {n₀ Bs : Nat} {w : World} (hn : n₀ ≤ w.heap.size) (W : World) (l : Nat) (o o' : Obj) (hl : w.heap.size ≤ l) (h : W.heap[l]? = some o) (hc : o.isCells = false) (hw : o.isWalk = false) : KpS n₀ Bs W (W.putObj l o') :=
  ⟨belowK_b hn W l o o' hl h hc hw, fun v hv => hv.kept (grownBy_putObj' W l o') (fun e => by
    cases e
    rw [show W.heap[Bs]? = _ from hv] at h
    cases h; cases hc)⟩

set_option maxRecDepth 100000 in
set_option maxHeartbeats 2000000 in
/-- The closure of slices.Backward, at a slice with cells. -/
theorem back1S_in (F : Fence) (n : Nat) (hf : F.fn 63) (hro : F.round = none) (hn : 1 ≤ n) (l Bs n₀ b cap : Nat) (L : List ByteArray) (hz : ∀ x ∈ L, x.size ≤ 1000) (hL : L.length ≤ 1000) (hb : b < n₀) (J Jx : List IxS → World → Prop)
    (hY : ∀ pre x W, J pre W → pre.length < L.length → YieldAt F (n - 1) Tryd.prog l #[.int .i64 (x.1.1 : Int), .string x.1.2] W fun e W' =>
      (e = .returned (.bool true) ∧ J (pre ++ [x]) W' ∧ KpS n₀ Bs W W') ∨ (e = .returned (.bool false) ∧ Jx (pre ++ [x]) W'))
    (W : World) (hBs : Boxed W Bs 22 (.slice (some ⟨b, 0, none⟩) L.length cap)) (hc : ∀ j, j < L.length → W.cell? ⟨b, j, none⟩ = some (.string (L[j]?.getD ⟨#[]⟩))) (h0 : J [] W) :
    CallsIn F n Tryd.prog 63 #[.func (.yield l) #[] #[], .pointer (some ⟨Bs, 0, none⟩)] W fun e W' => (∃ v, e = .returned v) ∧
      ((∃ ys, ys = bkToS L hz L.length ∧ J ys W') ∨ (∃ pre, (∃ k, k ≤ L.length ∧ pre = bkToS L hz k) ∧ Jx pre W')) := by
  refine callsIn_of_wp Tryd.func63 rfl hf ?_ hro
  simp only [Tryd.ntmps63, List.size_toArray, List.length_cons, List.length_nil, Nat.reduceAdd, Nat.reduceSub, Array.replicate_succ, Array.replicate_zero, List.push_toArray, List.append_toArray, List.nil_append, List.cons_append]
  have hB0 := hBs.cell
  gi_wp2
  gi_loopw [3] (fun i wr => ∃ m : Nat, m ≤ L.length ∧ i = .int .i64 ((m : Int) - 1) ∧ J (bkToS L hz (L.length - m)) wr ∧ KpS n₀ Bs W wr)
    (fun i _ => (intOf i + 1).toNat)
  case atStart => exact ⟨L.length, Nat.le_refl _, rfl, by rw [Nat.sub_self]; exact h0, KpS.refl _ _ _⟩
  case round =>
    obtain ⟨m, hm, rfl, hJs, hnx⟩ := hrel
    have hBx := (hnx.2 _ hBs).cell
    cases m with
    | zero =>
      have e0 : ((0 : Nat) : Int) - 1 = -1 := by omega
      rw [e0]
      gi_wp2
      go_end0
      exact ⟨⟨_, rfl⟩, .inl ⟨_, rfl, hJs⟩⟩
    | succ m =>
      have e1 : ((m + 1 : Nat) : Int) - 1 = (m : Int) := by omega
      rw [e1]
      have hcx : wr.cell? ⟨b, m, none⟩ = some (.string (L[m]?.getD ⟨#[]⟩)) := (hnx.1.cell (p := ⟨b, m, none⟩) hb).trans (hc m (by omega))
      obtain ⟨fn, tmps, assign, body, hy, hR⟩ := hY _ (bkAtS L hz (L.length - (m + 1))) wr hJs (by rw [bkToS_length]; omega)
      have e2 : L.length - 1 - (L.length - (m + 1)) = m := by omega
      simp only [bkAtS, e2] at hy
      gi_wp2
      refine hR.mono ?_
      rintro e W3 (⟨rfl, hJ3, hk3⟩ | ⟨rfl, hJx3⟩)
      · gi_wp2
        go_roundw
        case rel => exact ⟨m, by omega, by go_num, by rw [show L.length - m = (L.length - (m + 1)) + 1 by omega, bkToS_succ]; exact hJ3, hnx.trans hk3⟩
        case measure => simp [intOf]
      · gi_wp2
        refine bodyPost_ret (results_none rfl _ _ _) rfl ?_
        exact ⟨⟨_, rfl⟩, .inr ⟨_, ⟨L.length - (m + 1) + 1, by omega, (bkToS_succ _ _ _).symm⟩, hJx3⟩⟩

set_option maxRecDepth 100000 in
set_option maxHeartbeats 2000000 in
/-- .. at a slice of none: no round. -/
theorem back1S_nil_in (F : Fence) (n : Nat) (hf : F.fn 63) (hro : F.round = none) (l Bs cap : Nat) (oa : Option Addr) (J : List IxS → World → Prop) (W : World) (hBs : W.cell? ⟨Bs, 0, none⟩ = some (.slice oa 0 cap)) (h0 : J [] W) :
    CallsIn F n Tryd.prog 63 #[.func (.yield l) #[] #[], .pointer (some ⟨Bs, 0, none⟩)] W fun e W' => (∃ v, e = .returned v) ∧ J [] W' := by
  refine callsIn_of_wp Tryd.func63 rfl hf ?_ hro
  simp only [Tryd.ntmps63, List.size_toArray, List.length_cons, List.length_nil, Nat.reduceAdd, Nat.reduceSub, Array.replicate_succ, Array.replicate_zero, List.push_toArray, List.append_toArray, List.nil_append, List.cons_append]
  gi_wp2
  gi_loopw [3] (fun i wr => i = .int .i64 (-1) ∧ J [] wr) (fun _ _ => 0)
  case atStart => exact ⟨rfl, h0⟩
  case round =>
    obtain ⟨rfl, hJs⟩ := hrel
    gi_wp2
    go_end0
    exact ⟨⟨_, rfl⟩, hJs⟩

set_option maxHeartbeats 1000000 in
/-- slices.Backward: the slice is boxed. -/
theorem backS_in (F : Fence) (n : Nat) (hf : F.fn 52) (hro : F.round = none) (a : Option Addr) (len cap : Nat) (w : World) :
    CallsIn F n Tryd.prog 52 #[.slice a len cap] w fun e w' => e = .returned (.func (.func 63) #[] #[.pointer (some ⟨w.heap.size, 0, none⟩)]) ∧ w' = w.alloc (.cells #[.slice a len cap] 22) := by
  refine callsIn_of_wp Tryd.func52 rfl hf ?_ hro
  simp only [Tryd.ntmps52, List.size_toArray, List.length_cons, List.length_nil, Nat.reduceAdd, Nat.reduceSub, Array.replicate_succ, Array.replicate_zero, List.push_toArray, List.append_toArray, List.nil_append, List.cons_append]
  gi_wp2
  go_ret
  exact ⟨rfl, rfl⟩

/-- What comes of slices.Backward. -/
theorem backS_stops (F : Fence) (n : Nat) (hf : F.fn 63) (hro : F.round = none) (hn : 1 ≤ n) (Bs n₀ cap : Nat) (oa : Option Addr) (L : List ByteArray) (hz : ∀ x ∈ L, x.size ≤ 1000) (hL : L.length ≤ 1000) (w : World) (hn₁ : n₀ ≤ w.heap.size)
    (hc : Boxed w Bs 22 (.slice oa L.length cap)) (hI : ∀ i, i < L.length → ∃ g, oa = some ⟨g, 0, none⟩ ∧ g < n₀ ∧ w.cell? ⟨g, i, none⟩ = some (.string (L[i]?.getD ⟨#[]⟩))) :
    SeqStopsK F n Tryd.prog 63 #[.pointer (some ⟨Bs, 0, none⟩)] (fun x : IxS => #[Value.int .i64 (x.1.1 : Int), Value.string x.1.2]) (KpS n₀ Bs) (fun ys => ys = bkToS L hz L.length)
      (fun pre => ∃ k, k ≤ L.length ∧ pre = bkToS L hz k) L.length w := fun l J Jx W hW _ _ hY h0 => by
  have hc' : Boxed W Bs 22 (.slice oa L.length cap) := (hW.block Bs hc.lt).trans hc
  by_cases h : L.length = 0
  · have hc2 := hc'.cell
    rw [h] at hc2
    exact (back1S_nil_in F n hf hro l Bs cap oa J W hc2 h0).mono fun e W' ⟨he, hj⟩ => ⟨he, .inl ⟨_, by rw [h]; rfl, hj⟩⟩
  · obtain ⟨g, rfl, hg, _⟩ := hI 0 (by omega)
    refine back1S_in F n hf hro hn l Bs n₀ g cap L hz hL hg J Jx hY W hc' (fun i hi => ?_) h0
    obtain ⟨g', e, hg', c⟩ := hI i hi
    cases e
    exact (hW.cell (p := ⟨g, i, none⟩) (by show g < _; omega)).trans c

end Go.Proofs.YtplmbdljhgicfaaDoor

/-! Ff2 -/
namespace Go.Proofs.YtplmbdljhgicfaaDoor
open Go.RowKit Go.Shelf

attribute [local go_sem] Oper.semAt_some

/-- What stands behind the rounds so far. -/
def hangS (e : ByteArray) (pre : List IxS) : ByteArray := pre.foldl (fun acc x => (⟨#[40]⟩ : ByteArray) ++ x.1.2 ++ acc ++ ⟨#[41]⟩) e
theorem hangS_snoc (e : ByteArray) (pre : List IxS) (x : IxS) : hangS e (pre ++ [x]) = (⟨#[40]⟩ : ByteArray) ++ x.1.2 ++ hangS e pre ++ ⟨#[41]⟩ := by simp [hangS]
theorem s40 : (⟨#[40]⟩ : ByteArray).size = 1 := rfl
theorem s41 : (⟨#[41]⟩ : ByteArray).size = 1 := rfl
theorem hangS_size (e : ByteArray) : ∀ n : Nat, ∀ pre : List IxS, pre.length = n → (hangS e pre).size ≤ e.size + 1002 * n := by
  intro n
  induction n with
  | zero => intro pre h; obtain rfl := List.length_eq_zero_iff.1 h; exact Nat.le_refl _
  | succ n ih =>
    intro pre h
    rcases List.eq_nil_or_concat pre with rfl | ⟨p, x, rfl⟩
    · simp at h
    · rw [List.concat_eq_append] at h ⊢
      rw [hangS_snoc, ByteArray.size_append, ByteArray.size_append, ByteArray.size_append, s40, s41]
      have h1 := ih p (by simpa using h)
      have h2 := x.2
      omega
theorem short_strs {us : List Tr} (h : sumT us ≤ 300) : ∀ x ∈ strs us, x.size ≤ 1000 := by
  intro x hx
  obtain ⟨u, hu, rfl⟩ := List.mem_map.1 hx
  have := sumT_mem hu
  rw [u.str_size]; omega
theorem hangS_back (us : List Tr) (t : Tr) (hz : ∀ x ∈ strs us, x.size ≤ 1000) : ∀ k, k ≤ us.length → hangS t.str (bkToS (strs us) hz k) = (combE (us.drop (us.length - k)) t).str := by
  intro k
  induction k with
  | zero => intro _; rw [Nat.sub_zero, List.drop_length]; rfl
  | succ k ih =>
    intro h
    rw [bkToS_succ, hangS_snoc, ih (by omega)]
    have e1 : us.length - k = us.length - (k + 1) + 1 := by omega
    have e2 : (strs us).length - 1 - k = us.length - (k + 1) := by rw [strs_length]; omega
    have hlt : us.length - (k + 1) < us.length := by omega
    rw [List.drop_eq_getElem_cons hlt, e1]
    show _ = (Tr.nd _ (combE _ t)).str
    rw [str_nd]
    show (⟨#[40]⟩ : ByteArray) ++ (strs us)[(strs us).length - 1 - k]?.getD ⟨#[]⟩ ++ _ ++ _ = _
    rw [e2]
    simp [strs, hlt]

set_option maxRecDepth 100000 in
set_option maxHeartbeats 2000000 in
theorem hungAbove_in (F : Fence) (n : Nat) (h3 : F.fn 40) (h5 : F.fn 52) (h7 : F.fn 63) (hro : F.round = none) (hn : 3 ≤ n) (oa : Option Addr) (cap : Nat) (E : ByteArray) (hE : E.size ≤ 1000000) (L : List ByteArray) (hz : ∀ x ∈ L, x.size ≤ 1000) (hL : L.length ≤ 1000) (w : World)
    (hI : ∀ i, i < L.length → ∃ g, oa = some ⟨g, 0, none⟩ ∧ g < w.heap.size ∧ w.cell? ⟨g, i, none⟩ = some (.string (L[i]?.getD ⟨#[]⟩))) :
    CallsIn F n Tryd.prog 40 #[.string E, .slice oa L.length cap] w fun e W' => e = .returned (.string (hangS E (bkToS L hz L.length))) ∧ Below w.heap.size w W' := by
  have h1 : 1 ≤ n := by omega
  refine callsIn_of_wp_marks Tryd.func40 rfl h3 ?_ hro
  simp only [Tryd.ntmps40, List.size_toArray, List.length_cons, List.length_nil, Nat.reduceAdd, Nat.reduceSub, Array.replicate_succ, Array.replicate_zero, List.push_toArray, List.append_toArray, List.nil_append, List.cons_append]
  gi_wp2_with (gi_at_call 52; refine (backS_in F (n - 1) h5 hro _ _ _ _).mono ?_; rintro e w' ⟨rfl, rfl⟩)
  have bO := Boxed.new w 9 (.string E)
  have bN := Boxed.new (w.alloc (.cells #[.string E] 9)) 22 (.slice oa L.length cap)
  rw [World.size_alloc] at bN
  have hB0 : Below w.heap.size w ((w.alloc (.cells #[.string E] 9)).alloc (.cells #[.slice oa L.length cap] 22)) := ((Below.refl _ w).alloc (Nat.le_refl _) _).alloc (by simp) _
  refine wpIn_rangeFunc_ownG hro h1 (gf := 63) (lb := #[.pointer (some ⟨w.heap.size + 1, 0, none⟩)]) rfl h7 (enters_of Tryd.func63 (by kernel_rfl) rfl)
    (backS_stops F (n - 1) h7 hro (by omega) (w.heap.size + 1) w.heap.size cap oa L hz hL _ (by simp; omega) bN (fun i hi => by
      obtain ⟨g, e, hg, c⟩ := hI i hi
      exact ⟨g, e, hg, (hB0.cell (p := ⟨g, i, none⟩) hg).trans c⟩)) KpS.trans (KpS.put (by simp; omega)) (Below.refl _ _) (fun _ => rfl)
    (fun pre W => Boxed W w.heap.size 9 (.string (hangS E pre)) ∧ Below w.heap.size w W)
    (fun _ _ _ => False)
    (OwnFrom.and (Own.from (boxed_own w.heap.size 9 (fun pre => .string (hangS E pre))) _) (ownFrom_below (Nat.le_refl _) (by simp; omega)))
    (fun _ _ _ _ _ hs _ _ => hs)
    ⟨bO.alloc _, hB0⟩
    (fun x => { tmps := #[.string E, .slice oa L.length cap, .pointer (some ⟨w.heap.size, 0, none⟩), undef, .string ⟨#[]⟩, undef, .string x.1.2, .slice oa L.length cap, .func (.func 63) #[] #[.pointer (some ⟨w.heap.size + 1, 0, none⟩)], .int .i64 (x.1.1 : Int), .string x.1.2, undef, undef, undef, undef, undef, undef], defers := [] }) ?assign ?body ?done ?stop
  case assign =>
    intro l x W K hK
    gi_wp2
    exact hK
  case body =>
    rintro l pre x W ⟨hv, hB⟩ hlt
    have hc := hv.cell
    have hf := hv.frozen
    have hx := x.2
    have hps := hangS_size E pre.length pre rfl
    have hnx := hangS_snoc E pre x
    generalize hangS E pre = T at *
    have HNX := Lib.hid hnx
    clear hnx
    have hTs : T.size ≤ 2100000 := by omega
    have a1 : ¬ (9223372036854775807 < (⟨#[40]⟩ : ByteArray).size + x.1.2.size) := by rw [s40]; omega
    have a1' : ¬ (9223372036854775807 < 1 + x.1.2.size) := by omega
    have a2' : ¬ (9223372036854775807 < 1 + x.1.2.size + T.size) := by omega
    have a3' : ¬ (9223372036854775807 < 1 + x.1.2.size + T.size + 1) := by omega
    gi_wp2
    have hb2 : Below w.heap.size W (W.setCell ⟨w.heap.size, 0, none⟩ (.string ((⟨#[40]⟩ : ByteArray) ++ x.1.2 ++ T ++ ⟨#[41]⟩))) := (Below.refl w.heap.size W).setCell (Nat.le_refl _) _
    refine ⟨(KeepsOthers.setCell W _ _).from _, ⟨hb2, fun u hu => hu.other (by omega) _⟩, ?_, hB.trans hb2⟩
    show Boxed _ w.heap.size 9 (.string (hangS E (pre ++ [x])))
    rw [HNX.out]
    exact hv.set _
  case done =>
    rintro D ys W hD rfl ⟨hv, hB⟩ hK
    have hc := hv.cell
    gi_wp2
    refine ⟨by simp, .inl ⟨_, _, rfl, run_takeDeferred hK, ?_⟩⟩
    exact ⟨_, results_tmp rfl _ _ _, rfl, hB.trans (belowK_b (w := w) (Nat.le_refl _) W D _ _ (by simp at hD; omega) hK rfl rfl)⟩
  case stop =>
    rintro D c pre W _ _ h _
    exact h.elim

theorem hungAbove_any (v : Value) (b : Nat) (us : List Tr) (t : Tr) (w : World) (hv : CellsS b w v (strs us)) (hs : sumT us ≤ 300) (ht : t.carets ≤ 1000) (hl : us.length ≤ 1000) :
    Calls Tryd.prog 40 #[.string t.str, v] w (Gives (.string (combE us t).str) w) := by
  obtain ⟨oa, cap, rfl, hcl, hcm, hcc⟩ := hv.form0
  have hz := short_strs hs
  have hE : t.str.size ≤ 1000000 := by rw [t.str_size]; omega
  have hb := hangS_back us t hz us.length (Nat.le_refl _)
  rw [Nat.sub_self, List.drop_zero] at hb
  refine callsIn_wide.1 ((hungAbove_in Fence.wide 3 trivial trivial trivial rfl (Nat.le_refl _) oa cap t.str hE (strs us) hz (by rw [strs_length]; exact hl) w (fun i hi => ?_)).mono ?_)
  · obtain ⟨g, e, _, hg, c⟩ := hcc i hi
    exact ⟨g, e, hg, by rw [← List.getD_eq_getElem?_getD]; exact c⟩
  · rintro e w' ⟨he, hbw⟩
    rw [strs_length, hb] at he
    exact ⟨he, hbw⟩

theorem hung_any (v : Value) (b : Nat) (us : List Tr) (w : World) (hv : CellsS b w v (strs us)) (hs : sumT us ≤ 300) (hl : us.length ≤ 1000) :
    Calls Tryd.prog 23 #[v] w (Gives (.string (combT us).str) w) := by
  have h := hungAbove_any v b us .lf w hv hs (by simp [Tr.carets]) hl
  rw [combE_lf] at h
  have h' : Calls Tryd.prog 40 #[.string ⟨#[46]⟩, v] w (Gives (.string (combT us).str) w) := h
  obtain ⟨oa, cap, rfl, _⟩ := hv.form0
  clear h hv
  go_enter Tryd.func23, Tryd.ntmps23
  go_wp2_with fail
  refine h'.mono ?_; rintro e w1 ⟨rfl, hb1⟩
  go_wp2_with fail
  go_ret
  exact ⟨rfl, hb1⟩
end Go.Proofs.YtplmbdljhgicfaaDoor

/-! Text -/
namespace Go.Proofs.YtplmbdljhgicfaaDoor
open Go.RowKit

theorem isLeaf_any (t : Tr) (b : Nat) (w : World) (h : NodeAt w t b) :
    Calls Tryd.prog 58 #[.pointer (some ⟨b, 0, none⟩)] w fun e w' => e = .returned (.bool t.isLf) ∧ w = w' := by
  cases t with
  | lf =>
    have h1 := two_left h
    have H := Lib.hid h
    clear h
    go_enter Tryd.func58, Tryd.ntmps58
    go_wp2_with fail
    go_ret
    exact ⟨rfl, rfl⟩
  | nd l r =>
    obtain ⟨bl, br, h, hl, hr⟩ := h
    have h1 := two_left h
    have H := Lib.hid h
    clear h
    go_enter Tryd.func58, Tryd.ntmps58
    go_wp2_with fail
    go_ret
    exact ⟨rfl, rfl⟩

theorem NodeAt.heap {w w' : World} (e : w'.heap = w.heap) : ∀ {t : Tr} {b : Nat}, NodeAt w t b → NodeAt w' t b := by
  intro t
  induction t with
  | lf => intro b h; unfold NodeAt at *; rw [e]; exact h
  | nd l r ihl ihr =>
    intro b h
    obtain ⟨bl, br, h, h1, h2⟩ := h
    exact ⟨bl, br, by rw [e]; exact h, ihl h1, ihr h2⟩
theorem NodeAt.drewN {w : World} (n : Nat) {t : Tr} {b : Nat} (h : NodeAt w t b) : NodeAt (w.drewN n) t b := NodeAt.heap (w := w) (w' := w.drewN n) rfl h

end Go.Proofs.YtplmbdljhgicfaaDoor

/-! Mir -/
namespace Go.Proofs.YtplmbdljhgicfaaDoor
open Go.RowKit

/-- A call that hands back a node of a tree. -/
def GivesNode (t : Tr) (w : World) (e : Ending) (w' : World) : Prop :=
  ∃ b : Nat, NodeAt w' t b ∧ Below w.heap.size w w' ∧ e = .returned (.pointer (some ⟨b, 0, none⟩))

theorem below_two {w w1 : World} {b : Nat} {u v : Value} (hb : Below w.heap.size w w1) (h1 : w.cell? ⟨b, 0, none⟩ = some u) (h2 : w.cell? ⟨b, 1, none⟩ = some v) :
    w1.cell? ⟨b, 0, none⟩ = some u ∧ w1.cell? ⟨b, 1, none⟩ = some v := by
  have hl := World.block_lt_of_cell? w _ h1
  exact ⟨(hb.cell (p := ⟨b, 0, none⟩) hl).trans h1, (hb.cell (p := ⟨b, 1, none⟩) hl).trans h2⟩

end Go.Proofs.YtplmbdljhgicfaaDoor

/-! Join -/
namespace Go.Proofs.YtplmbdljhgicfaaDoor
open Go.RowKit

end Go.Proofs.YtplmbdljhgicfaaDoor

/-! TreeO -/
namespace Go.Proofs.YtplmbdljhgicfaaDoor
open Go.RowKit

theorem keep_cell {w w' : World} {b o : Nat} {v : Value} (hb : Below w.heap.size w w') (h : w.cell? ⟨b, o, none⟩ = some v) : w'.cell? ⟨b, o, none⟩ = some v :=
  (hb.cell (p := ⟨b, o, none⟩) (World.block_lt_of_cell? _ _ h)).trans h

theorem treeOf_any (t : Tr) (w : World) (h : t.carets ≤ 1000) : Calls Tryd.prog 48 #[.string t.str] w (GivesNode t w) := by
  have hz := t.str_size
  have hp := place_any (t.str.size + 1) t.str
  rw [parse_str t _ (by have := t.text_len; omega)] at hp
  have hp' : ∀ w, Calls Tryd.prog 57 #[.string t.str] w (PlaceOk t [] t.str w) := fun w => hp w (by omega) (by omega)
  clear hz hp
  go_enter Tryd.func48, Tryd.ntmps48
  go_wp2_with fail
  refine (hp' _).mono ?_; rintro e w1 ⟨b1, s1, hs1, hz1, hn1, hb1, rfl⟩
  clear hs1 hz1
  go_wp2_with fail
  go_ret
  exact ⟨b1, hn1, hb1, rfl⟩

end Go.Proofs.YtplmbdljhgicfaaDoor

/-! Ff6 -/
namespace Go.Proofs.YtplmbdljhgicfaaDoor
open Go.RowKit

/-- The nodes of two forests, or none. -/
def TwoNodes (o p : Option (List Tr)) (w : World) (e : Ending) (w' : World) : Prop :=
  match o, p with
  | some us, some vs => ∃ b c, NodeAt w' (combT us) b ∧ NodeAt w' (combT vs) c ∧ Below w.heap.size w w' ∧ e = .returned (.tuple #[.pointer (some ⟨b, 0, none⟩), .pointer (some ⟨c, 0, none⟩), .bool true])
  | _, _ => e = .returned (.tuple #[.pointer none, .pointer none, .bool false]) ∧ Below w.heap.size w w'

theorem str_same (a c : Tr) (h : a = c) : (a.str.toList == c.str.toList) = true := by rw [h]; exact beq_self_eq_true _
theorem str_diff (a c : Tr) (h : a ≠ c) : (a.str.toList == c.str.toList) = false := by
  rw [beq_eq_false_iff_ne]
  simp only [Lib.toList_data, Tr.str_list]
  intro e
  exact h (Tr.text_inj (r := []) (q := []) (by rw [e])).1

def partO (o p : Option (List Tr)) : Value := .tuple #[.bool (match o, p with | some us, some vs => partF us vs | _, _ => false), .bool (o.isSome && p.isSome)]

end Go.Proofs.YtplmbdljhgicfaaDoor
