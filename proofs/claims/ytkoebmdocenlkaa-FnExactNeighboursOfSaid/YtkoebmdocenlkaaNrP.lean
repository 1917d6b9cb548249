/- Neighbours of a tree: texts put in order one by one, or all at once. No program is named here. -/
import Derived.Test.YtkoebmdocenlkaaBrP
namespace Go.Proofs.Ytkoebmdocenlkaa

/-- Texts in order. -/
def leB (a b : ByteArray) : Bool := decide (¬ b.data.toList < a.data.toList)
theorem u8_irrefl (a : UInt8) : ¬ a < a := UInt8.lt_irrefl a
theorem leB_total (a b : ByteArray) : leB a b = true ∨ leB b a = true := by
  unfold leB
  by_cases h : b.data.toList < a.data.toList
  · right
    simp only [decide_eq_true_eq]
    exact List.lt_asymm h
  · left; simpa using h
theorem leB_trans {a b c : ByteArray} (h : leB a b = true) (k : leB b c = true) : leB a c = true := by
  unfold leB at *
  simp only [decide_eq_true_eq] at *
  exact List.le_trans (α := UInt8) h k
theorem leB_antisymm {a b : ByteArray} (h : leB a b = true) (k : leB b a = true) : a = b := by
  unfold leB at *
  simp only [decide_eq_true_eq] at *
  exact ba_ext (List.le_antisymm (α := UInt8) h k)

/-- How many texts at the beginning are less. -/
def frontB (x : ByteArray) (l : List ByteArray) : Nat := (l.takeWhile (fun y => decide (y.data.toList < x.data.toList))).length
def insB (x : ByteArray) (l : List ByteArray) : List ByteArray := l.take (frontB x l) ++ [x] ++ l.drop (frontB x l)
theorem frontB_nil (x : ByteArray) : frontB x [] = 0 := rfl
theorem insB_cons (x y : ByteArray) (l : List ByteArray) : insB x (y :: l) = if y.data.toList < x.data.toList then y :: insB x l else x :: y :: l := by
  unfold insB frontB
  rw [List.takeWhile_cons]
  by_cases h : y.data.toList < x.data.toList
  · simp [h]
  · simp [h]
theorem frontB_cons (x y : ByteArray) (l : List ByteArray) : frontB x (y :: l) = if y.data.toList < x.data.toList then frontB x l + 1 else 0 := by
  unfold frontB
  rw [List.takeWhile_cons]
  by_cases h : y.data.toList < x.data.toList
  · simp [h]
  · simp [h]
theorem frontB_le (x : ByteArray) (l : List ByteArray) : frontB x l ≤ l.length := by
  unfold frontB; exact (List.takeWhile_sublist _).length_le
theorem frontB_lt {x : ByteArray} : ∀ {l : List ByteArray} {k : Nat}, k < frontB x l → (l.getD k ⟨#[]⟩).data.toList < x.data.toList := by
  intro l
  induction l with
  | nil => intro k h; rw [frontB_nil] at h; omega
  | cons y l ih =>
    intro k h
    rw [frontB_cons] at h
    split at h
    · next g =>
      cases k with
      | zero => exact g
      | succ k => exact ih (by omega)
    · omega
theorem frontB_at {x : ByteArray} : ∀ {l : List ByteArray}, frontB x l < l.length → ¬ (l.getD (frontB x l) ⟨#[]⟩).data.toList < x.data.toList := by
  intro l
  induction l with
  | nil => intro h; simp at h
  | cons y l ih =>
    intro h
    rw [frontB_cons] at h ⊢
    split
    · next g => rw [if_pos g] at h; exact ih (by simpa using h)
    · next g => exact g
theorem insB_perm (x : ByteArray) (l : List ByteArray) : List.Perm (insB x l) (x :: l) := by
  unfold insB
  have h1 : List.Perm (l.take (frontB x l) ++ [x] ++ l.drop (frontB x l)) (x :: (l.take (frontB x l) ++ l.drop (frontB x l))) := by
    rw [List.append_assoc]
    exact List.perm_middle
  rwa [List.take_append_drop] at h1
theorem insB_length (x : ByteArray) (l : List ByteArray) : (insB x l).length = l.length + 1 := by simpa using (insB_perm x l).length_eq
theorem insB_sorted {x : ByteArray} : ∀ {l : List ByteArray}, l.Pairwise (fun a b => leB a b = true) → (insB x l).Pairwise (fun a b => leB a b = true) := by
  intro l
  induction l with
  | nil => intro _; simp [insB, frontB]
  | cons y l ih =>
    intro h
    rw [List.pairwise_cons] at h
    rw [insB_cons]
    split
    · next g =>
      rw [List.pairwise_cons]
      refine ⟨fun z hz => ?_, ih h.2⟩
      have := (insB_perm x l).mem_iff.1 hz
      rcases List.mem_cons.1 this with rfl | hz
      · unfold leB; simp only [decide_eq_true_eq]; exact List.lt_asymm g
      · exact h.1 z hz
    · next g =>
      have hxy : leB x y = true := by unfold leB; simpa using g
      rw [List.pairwise_cons]
      refine ⟨fun z hz => ?_, by rw [List.pairwise_cons]; exact h⟩
      rcases List.mem_cons.1 hz with rfl | hz
      · exact hxy
      · exact leB_trans hxy (h.1 z hz)
/-- All put in order one by one. -/
def insAll (l acc : List ByteArray) : List ByteArray := l.foldl (fun acc x => insB x acc) acc
theorem insAll_perm (l : List ByteArray) : ∀ acc, List.Perm (insAll l acc) (l ++ acc) := by
  induction l with
  | nil => intro acc; exact List.Perm.refl _
  | cons x l ih =>
    intro acc
    show List.Perm (insAll l (insB x acc)) _
    refine (ih (insB x acc)).trans ?_
    refine ((insB_perm x acc).append_left l).trans ?_
    exact List.perm_middle
theorem insAll_sorted (l : List ByteArray) : ∀ acc, acc.Pairwise (fun a b => leB a b = true) → (insAll l acc).Pairwise (fun a b => leB a b = true) := by
  induction l with
  | nil => intro acc h; exact h
  | cons x l ih => intro acc h; exact ih _ (insB_sorted h)
theorem insAll_length (l acc : List ByteArray) : (insAll l acc).length = l.length + acc.length := by rw [(insAll_perm l acc).length_eq, List.length_append]
theorem insAll_append (l m acc : List ByteArray) : insAll (l ++ m) acc = insAll m (insAll l acc) := by unfold insAll; rw [List.foldl_append]
theorem insAll_one (x : ByteArray) (acc : List ByteArray) : insAll [x] acc = insB x acc := rfl
/-- Whatever is in order and holds the same texts is that list. -/
theorem insAll_unique {l m : List ByteArray} (hp : List.Perm m l) (hs : m.Pairwise (fun a b => leB a b = true)) : m = insAll l [] := by
  have h1 : List.Perm m (insAll l []) := hp.trans (by have := insAll_perm l []; rw [List.append_nil] at this; exact this.symm)
  exact List.Perm.eq_of_pairwise (fun a b _ _ h k => leB_antisymm h k) hs (insAll_sorted l [] List.Pairwise.nil) h1

/-- The trees behind turns at addresses (those that can be made). -/
def turnL (k : Bool) (t : Tr) (as1 : List ByteArray) : List ByteArray := as1.map fun a => match t.rotAt k a.data.toList with | some u => u.str | none => ⟨#[]⟩
def reachT (t : Tr) : List ByteArray := turnL false t (t.spots false ⟨#[]⟩) ++ turnL true t (t.spots true ⟨#[]⟩)
def nearT (t : Tr) : List ByteArray := insAll (reachT t) []
theorem turnL_len (k : Bool) (t : Tr) (as1 : List ByteArray) : (turnL k t as1).length = as1.length := by simp [turnL]
theorem reachT_len (t : Tr) : (reachT t).length ≤ 2 * t.carets := by
  have h1 := spots_len (k := false) t ⟨#[]⟩
  have h2 := spots_len (k := true) t ⟨#[]⟩
  unfold reachT; rw [List.length_append, turnL_len, turnL_len]; omega
theorem nearT_len (t : Tr) : (nearT t).length ≤ 2 * t.carets := by
  have := reachT_len t
  unfold nearT; rw [insAll_length]; simpa using this
end Go.Proofs.Ytkoebmdocenlkaa
