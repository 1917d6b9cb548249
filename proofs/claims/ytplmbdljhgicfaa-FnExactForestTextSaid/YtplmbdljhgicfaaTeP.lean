/- Trees of exponents: sums and steps. No program is named here. -/
import Derived.Test.YtplmbdljhgicfaaWayQ
namespace Go.Proofs.Ytplmbdljhgicfaa

theorem joinJ_succ : ∀ (a : Nat) (s : List Tr) (t u : Tr) (r : List Tr), joinJ a s = t :: u :: r → a < s.length → joinJ (a + 1) s = .nd t u :: r := by
  intro a
  induction a with
  | zero => intro s t u r h _; rw [joinJ] at h; rw [h]; rfl
  | succ a ih =>
    intro s t u r h hl
    match s, hl with
    | [], hl => simp at hl
    | [x], hl => simp at hl
    | x :: y :: q, hl =>
      rw [joinJ] at h
      show joinJ (a + 1) (.nd x y :: q) = _
      exact ih _ _ _ _ h (by simp at hl ⊢; omega)
def sumT (s : List Tr) : Nat := (s.map Tr.carets).sum
theorem sumT_cons (t : Tr) (s : List Tr) : sumT (t :: s) = t.carets + sumT s := by simp [sumT]
theorem sumT_app (s u : List Tr) : sumT (s ++ u) = sumT s + sumT u := by simp [sumT]
theorem sumT_lf (n : Nat) : sumT (List.replicate n .lf) = 0 := by
  induction n with
  | zero => rfl
  | succ n ih => rw [List.replicate_succ, sumT_cons, ih]; rfl
theorem sumT_mem {s : List Tr} {t : Tr} (h : t ∈ s) : t.carets ≤ sumT s := by
  induction s with
  | nil => simp at h
  | cons x s ih =>
    rw [sumT_cons]
    rcases List.mem_cons.1 h with rfl | h
    · omega
    · have := ih h; omega
theorem sumT_join : ∀ (a : Nat) (s : List Tr), a < s.length → sumT (joinJ a s) = sumT s + a := by
  intro a
  induction a with
  | zero => intro s _; rfl
  | succ a ih =>
    intro s h
    match s, h with
    | [], h => simp at h
    | [_], h => simp at h
    | x :: y :: q, h =>
      rw [joinJ, ih _ (by simp at h ⊢; omega), sumT_cons, sumT_cons, sumT_cons]
      simp [Tr.carets]; omega
theorem sumT_stack (n : Nat) : ∀ L : List Nat, L.sum ≤ n → sumT (stackD n L) = L.sum := by
  intro L
  induction L with
  | nil => intro _; exact sumT_lf n
  | cons e L ih =>
    intro h
    rw [List.sum_cons] at h
    have hl := stackD_length n L (by omega)
    rw [stackD, sumT_join _ _ (by simp; omega), sumT_cons, ih (by omega), List.sum_cons]
    simp [Tr.carets]; omega
theorem foldE_carets : ∀ (L A : List Nat) (t : Tr), InvE A t → t.carets ≤ (foldE t A.length L).carets := by
  intro L
  induction L with
  | nil => intro A t _; exact Nat.le_refl _
  | cons e L ih =>
    intro A t h
    have h1 := ih (A ++ [e]) _ (invE_step h e)
    rw [List.length_append] at h1
    have h2 := (stepE_carets t A.length e (invE_carets h)).1
    show _ ≤ (foldE (stepE t A.length e) (A.length + 1) L).carets
    rw [show A.length + [e].length = A.length + 1 from rfl] at h1
    omega
theorem stripT_take {s : List Tr} {n : Nat} {t : Tr} (h : s[n]? = some t) (ht : t.isLf = true) : stripT (s.take (n + 1)) = stripT (s.take n) := by
  obtain ⟨hn, rfl⟩ := List.getElem?_eq_some_iff.1 h
  rw [List.take_succ_eq_append_getElem hn]
  have := (isLf_iff _).1 ht
  rw [this]
  exact stripT_lf (s.take n) 1
theorem stripT_stop {s : List Tr} {n : Nat} {t : Tr} (h : s[n]? = some t) (ht : t.isLf = false) : stripT (s.take (n + 1)) = s.take (n + 1) := by
  obtain ⟨hn, rfl⟩ := List.getElem?_eq_some_iff.1 h
  rw [List.take_succ_eq_append_getElem hn]
  exact stripT_last _ _ ht

/-- Is a list one of exponents? -/
def exOk (L : List Int) : Bool := decide (L.length ≤ 9) && (L.all (fun x => decide (0 ≤ x) && decide (x ≤ 8)) && !(L.getLast? == some 0))
theorem exOk_iff {L : List Int} : exOk L = true ↔ L.length ≤ 9 ∧ (∀ x ∈ L, 0 ≤ x ∧ x ≤ 8) ∧ L.getLast? ≠ some 0 := by simp [exOk]
def toN (L : List Int) : List Nat := L.map Int.toNat
theorem toN_length (L : List Int) : (toN L).length = L.length := by simp [toN]
theorem toN_sum {L : List Int} (h : ∀ x ∈ L, 0 ≤ x ∧ x ≤ 8) : (toN L).sum ≤ 8 * L.length := by
  induction L with
  | nil => simp [toN]
  | cons x L ih =>
    have h1 := h x (by simp)
    have h2 := ih (fun y hy => h y (by simp [hy]))
    have h3 : (toN (x :: L)).sum = x.toNat + (toN L).sum := by simp [toN]
    rw [h3, List.length_cons]; omega
theorem toN_end {L : List Int} (h : L.getLast? ≠ some 0) (hp : ∀ x ∈ L, 0 ≤ x ∧ x ≤ 8) : ∀ B, toN L ≠ B ++ [0] := by
  intro B hB
  apply h
  have h1 := congrArg List.getLast? hB
  rw [List.getLast?_append] at h1
  simp only [toN, List.getLast?_map, List.getLast?_singleton, Option.or] at h1
  cases hl : L.getLast? with
  | none => rw [hl] at h1; simp at h1
  | some x =>
    rw [hl] at h1
    simp only [Option.map_some, Option.some.injEq] at h1
    have := hp x (List.mem_of_getLast? hl)
    congr 1; omega
end Go.Proofs.Ytplmbdljhgicfaa
