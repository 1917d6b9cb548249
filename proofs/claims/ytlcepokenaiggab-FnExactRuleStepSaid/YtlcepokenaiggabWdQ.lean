/- Words: rules and drops. No program is named here. -/
import Derived.Test.YtlcepokenaiggabWdP
namespace Go.Proofs.Ytlcepokenaiggab

theorem ruleO_none {x y : Int} (hx : x < 0) (h : ruleO x y = none) (hy : y ≠ 0) : y < 0 := by
  unfold ruleO at h
  repeat (split at h; · simp at h)
  omega
theorem stepO_tail {x : Int} {w : List Int} (h : stepO (x :: w) = none) : stepO w = none := by
  cases w with
  | nil => rfl
  | cons y r =>
    rw [stepO] at h
    split at h
    · simp at h
    · simpa using h
theorem sorted_neg : ∀ (w : List Int) (x : Int), stepO (x :: w) = none → (∀ y ∈ w, y ≠ 0) → x < 0 → ∀ y ∈ w, y < 0 := by
  intro w
  induction w with
  | nil => intro x _ _ _ y hy; simp at hy
  | cons z r ih =>
    intro x h hnz hx y hy
    have hz : z < 0 := by
      refine ruleO_none hx ?_ (hnz z (by simp))
      rw [stepO] at h
      split at h
      · simp at h
      · next hh => exact hh
    rcases List.mem_cons.1 hy with rfl | hy
    · exact hz
    · exact ih z (stepO_tail h) (fun y hy => hnz y (by simp [hy])) hz y hy
/-- A word that no rule changes: behind an inverse there are inverses alone. -/
theorem sorted_split : ∀ (A : List Int) (x : Int) (C : List Int), stepO (A ++ x :: C) = none → (∀ y ∈ A ++ x :: C, y ≠ 0) → x < 0 → ∀ y ∈ C, y < 0 := by
  intro A
  induction A with
  | nil => intro x C h hnz hx; exact sorted_neg C x h (fun y hy => hnz y (by simp [hy])) hx
  | cons a A ih => intro x C h hnz hx; exact ih x C (stepO_tail h) (fun y hy => hnz y (List.mem_cons_of_mem _ hy)) hx

/-- A drop is made at i: between the last i and its first inverse. -/
def CutW (w : List Int) (i : Int) (A B C : List Int) : Prop := w = A ++ i :: (B ++ -i :: C) ∧ i ∉ B ∧ i ∉ C ∧ -i ∉ A ∧ -i ∉ B

theorem first_split {w : List Int} {x : Int} (h : x ∈ w) : ∃ A C, w = A ++ x :: C ∧ x ∉ A := by
  induction w with
  | nil => simp at h
  | cons y r ih =>
    by_cases hy : x = y
    · subst hy; exact ⟨[], r, rfl, by simp⟩
    · have hr : x ∈ r := by rcases List.mem_cons.1 h with e | h; exact absurd e hy; exact h
      obtain ⟨A, C, rfl, hA⟩ := ih hr
      exact ⟨y :: A, C, rfl, by simp [hy, hA]⟩
theorem last_split {w : List Int} {x : Int} (h : x ∈ w) : ∃ A C, w = A ++ x :: C ∧ x ∉ C := by
  obtain ⟨A, C, h1, h2⟩ := first_split (w := w.reverse) (x := x) (by simpa using h)
  refine ⟨C.reverse, A.reverse, ?_, by simpa using h2⟩
  have := congrArg List.reverse h1
  simpa using this

theorem cut_of {w : List Int} {i : Int} (h : stepO w = none) (hnz : ∀ y ∈ w, y ≠ 0) (hi : 0 < i) (h1 : i ∈ w) (h2 : -i ∈ w) : ∃ A B C, CutW w i A B C := by
  obtain ⟨U, C, rfl, hU⟩ := first_split h2
  have hC := sorted_split U (-i) C h hnz (by omega)
  have hiC : i ∉ C := fun k => by have := hC i k; omega
  have hiU : i ∈ U := by
    rcases List.mem_append.1 h1 with k | k
    · exact k
    · rcases List.mem_cons.1 k with k | k
      · omega
      · exact absurd k hiC
  obtain ⟨A, B, rfl, hB⟩ := last_split hiU
  refine ⟨A, B, C, by simp, hB, hiC, fun k => hU (by simp [k]), fun k => hU (by simp [k])⟩

/-- Letters with a number that is one less. -/
def low (x : Int) : Int := if x < 0 then x + 1 else x - 1
theorem cut_unique {w : List Int} {i : Int} {A B C A' B' C' : List Int} (hi : 0 < i) (h : CutW w i A B C) (k : CutW w i A' B' C') : A = A' ∧ B = B' ∧ C = C' := by
  obtain ⟨e, a1, a2, a3, a4⟩ := h
  obtain ⟨e', b1, b2, b3, b4⟩ := k
  have key : ∀ (X X' Y Y' : List Int) (x : Int), x ∉ X → x ∉ X' → X ++ x :: Y = X' ++ x :: Y' → X = X' ∧ Y = Y' := by
    intro X
    induction X with
    | nil =>
      intro X' Y Y' x _ h2 he
      cases X' with
      | nil => simp at he; exact ⟨rfl, he⟩
      | cons a X' => simp at he; exact absurd (by simp [he.1]) h2
    | cons a X ih =>
      intro X' Y Y' x h1 h2 he
      cases X' with
      | nil => simp at he; exact absurd (by simp [he.1]) h1
      | cons b X' =>
        simp at he
        obtain ⟨rfl, he⟩ := he
        obtain ⟨rfl, rfl⟩ := ih X' Y Y' x (fun k => h1 (by simp [k])) (fun k => h2 (by simp [k])) he
        exact ⟨rfl, rfl⟩
  have e2 : (A ++ i :: B) ++ -i :: C = (A' ++ i :: B') ++ -i :: C' := by
    rw [e] at e'; simpa using e'
  have hne : ¬ (-i = i) := by omega
  obtain ⟨h1, h2⟩ := key _ _ _ _ _ (by simp [a3, a4, hne]) (by simp [b3, b4, hne]) e2
  have h3 := congrArg List.reverse h1
  simp only [List.reverse_append, List.reverse_cons, List.append_assoc, List.singleton_append] at h3
  obtain ⟨h4, h5⟩ := key _ _ _ _ _ (by simpa using a1) (by simpa using b1) h3
  exact ⟨by simpa using congrArg List.reverse h5, by simpa using congrArg List.reverse h4, h2⟩

def candB (w : List Int) (i : Int) : Bool := w.contains i && w.contains (-i) && (!w.contains (i + 1) && !w.contains (-i - 1))
/-- The greatest number at most n at which is dropped, or 0. -/
def topC (w : List Int) : Nat → Nat
  | 0 => 0
  | n + 1 => if candB w ((n : Int) + 1) = true then n + 1 else topC w n
theorem topC_le (w : List Int) (n : Nat) : topC w n ≤ n := by
  induction n with
  | zero => exact Nat.le_refl _
  | succ n ih => rw [topC]; split <;> omega
theorem topC_cand {w : List Int} {n i : Nat} (h : topC w n = i) (hi : i ≠ 0) : candB w (i : Int) = true := by
  induction n with
  | zero => rw [topC] at h; omega
  | succ n ih =>
    rw [topC] at h
    split at h
    · next hc => subst h; simpa using hc
    · exact ih h
theorem topC_big {w : List Int} (h : ∀ x ∈ w, x ≤ 21) (n : Nat) : topC w (21 + n) = topC w 21 := by
  induction n with
  | zero => rfl
  | succ n ih =>
    show topC w (21 + n + 1) = _
    rw [topC, if_neg, ih]
    intro hc
    simp only [candB, Bool.and_eq_true, List.contains_iff_mem] at hc
    have := h _ hc.1.1
    omega
open Classical in
/-- A sorted word behind one drop. -/
noncomputable def dropW (w : List Int) : Option (List Int) :=
  if topC w 21 = 0 then none
  else if h : ∃ p : List Int × List Int × List Int, CutW w (topC w 21) p.1 p.2.1 p.2.2 then some (h.choose.1 ++ (h.choose.2.1.map low ++ h.choose.2.2)) else none
theorem dropW_none {w : List Int} (h : topC w 21 = 0) : dropW w = none := by unfold dropW; rw [if_pos h]
theorem dropW_some {w : List Int} {i : Nat} {A B C : List Int} (h : topC w 21 = i) (hi : i ≠ 0) (hc : CutW w i A B C) : dropW w = some (A ++ (B.map low ++ C)) := by
  unfold dropW
  have hex : ∃ p : List Int × List Int × List Int, CutW w (topC w 21) p.1 p.2.1 p.2.2 := ⟨(A, B, C), by rw [h]; exact hc⟩
  rw [if_neg (by omega), dif_pos hex]
  have hs := hex.choose_spec
  generalize hex.choose = q at hs
  rw [h] at hs
  obtain ⟨h1, h2, h3⟩ := cut_unique (by omega) hs hc
  rw [h1, h2, h3]

/-- The first place at which a rule changes a word. -/
theorem stepO_at : ∀ (A : List Int) (x y : Int) (r b : List Int), stepO (A ++ [x]) = none → ruleO x y = some b → stepO (A ++ x :: y :: r) = some (A ++ (b ++ r)) := by
  intro A
  induction A with
  | nil => intro x y r b _ h; rw [List.nil_append, stepO, h]; rfl
  | cons a A ih =>
    intro x y r b h hr
    have h2 := ih x y r b (stepO_tail h) hr
    cases A with
    | nil =>
      have : ruleO a x = none := by
        rw [List.cons_append, List.nil_append, stepO] at h
        split at h
        · simp at h
        · next hh => exact hh
      rw [List.cons_append, List.nil_append, stepO, this]
      simp only [List.nil_append] at h2
      rw [h2]; rfl
    | cons c A =>
      have : ruleO a c = none := by
        rw [List.cons_append, List.cons_append, stepO] at h
        split at h
        · simp at h
        · next hh => exact hh
      rw [List.cons_append, List.cons_append, stepO, this]
      rw [List.cons_append] at h2
      rw [h2]; rfl
theorem stepO_snoc : ∀ (A : List Int) (x y : Int), stepO (A ++ [x]) = none → ruleO x y = none → stepO (A ++ [x, y]) = none := by
  intro A
  induction A with
  | nil => intro x y _ h; simp [stepO, h]
  | cons a A ih =>
    intro x y h hr
    have h2 := ih x y (stepO_tail h) hr
    cases A with
    | nil =>
      rw [List.cons_append, List.nil_append, stepO] at h ⊢
      split at h
      · simp at h
      · next hh => simp only [List.nil_append] at h2; simp only [h2, Option.map_none]
    | cons c A =>
      rw [List.cons_append, List.cons_append, stepO] at h ⊢
      split at h
      · simp at h
      · next hh => rw [List.cons_append] at h2; simp only [h2, Option.map_none]
theorem stepO_take {w : List Int} {k : Nat} (h : k + 1 < w.length) (h0 : stepO (w.take (k + 1)) = none) :
    (∀ b, ruleO (w.getD k 0) (w.getD (k + 1) 0) = some b → stepO w = some (w.take k ++ (b ++ w.drop (k + 2)))) ∧ (ruleO (w.getD k 0) (w.getD (k + 1) 0) = none → stepO (w.take (k + 1 + 1)) = none) := by
  have e1 : w.take (k + 1) = w.take k ++ [w.getD k 0] := by rw [List.take_succ_eq_append_getElem (by omega)]; simp [show k < w.length by omega]
  have e2 : w.take (k + 1 + 1) = w.take k ++ [w.getD k 0, w.getD (k + 1) 0] := by
    rw [List.take_succ_eq_append_getElem (by omega), e1]; simp [h]
  have e3 : w = w.take k ++ w.getD k 0 :: w.getD (k + 1) 0 :: w.drop (k + 2) := by
    have h1 := (List.take_append_drop (k + 2) w).symm
    rw [show k + 2 = k + 1 + 1 from rfl, e2] at h1
    simpa using h1
  rw [e1] at h0
  refine ⟨fun b hb => ?_, fun hn => ?_⟩
  · have := stepO_at (w.take k) _ _ (w.drop (k + 2)) b h0 hb
    rwa [← e3] at this
  · rw [e2]; exact stepO_snoc _ _ _ h0 hn
theorem stepO_small {w : List Int} (h : w.length ≤ 1) : stepO w = none := by
  match w, h with
  | [], _ => rfl
  | [_], _ => rfl

end Go.Proofs.Ytlcepokenaiggab
