/- Exponents of a tree's leaves, and what lists of exponents tell. No program is named here. -/
import Derived.Test.YtkoebmdocenlkabDoorAddrP
namespace Go.Proofs.YtkoebmdocenlkabDoor

/-- The exponents of the leaves, where a way of so many left sides leads to the tree. -/
def Tr.expN : Tr → Nat → List Nat
  | .lf, w => [w]
  | .nd l r, w => l.expN (w + 1) ++ r.expN 0
/-- Those of a whole tree. -/
def Tr.expR : Tr → List Nat
  | .lf => [0]
  | .nd l r => l.expN 0 ++ r.expR
theorem expN_length (t : Tr) : ∀ w, (t.expN w).length = t.carets + 1 := by
  induction t with
  | lf => intro w; rfl
  | nd l r ihl ihr => intro w; simp [Tr.expN, Tr.carets, ihl, ihr]; omega
theorem expR_length (t : Tr) : t.expR.length = t.carets + 1 := by
  induction t with
  | lf => rfl
  | nd l r ihl ihr => simp [Tr.expR, Tr.carets, expN_length, ihr]; omega
theorem expN_sum (t : Tr) : ∀ w, (t.expN w).sum = w + t.carets := by
  induction t with
  | lf => intro w; simp [Tr.expN, Tr.carets]
  | nd l r ihl ihr => intro w; simp [Tr.expN, Tr.carets, ihl, ihr]; omega
theorem expR_sum (t : Tr) : t.expR.sum ≤ t.carets := by
  induction t with
  | lf => simp [Tr.expR]
  | nd l r ihl ihr => simp [Tr.expR, Tr.carets, expN_sum]; omega

/-! The program's exponent of a leaf, from its address: letters '0' and '1'. -/
/-- How many '0' a list ends in. -/
def zerosR (l : List UInt8) : Nat := (l.reverse.takeWhile (· == 48)).length
def topL (l : List UInt8) : List UInt8 := l.take (l.length - zerosR l)
def expoL (l : List UInt8) : Nat := if 0 < zerosR l ∧ ¬ (48 : UInt8) ∈ topL l then zerosR l - 1 else zerosR l
theorem zerosR_le (l : List UInt8) : zerosR l ≤ l.length := by
  unfold zerosR
  have := (List.takeWhile_prefix (p := (· == (48 : UInt8))) (l := l.reverse)).length_le
  simpa using this
theorem zerosR_zero (l : List UInt8) : zerosR (l ++ [48]) = zerosR l + 1 := by simp [zerosR]
theorem zerosR_one (l : List UInt8) : zerosR (l ++ [49]) = 0 := by simp [zerosR]
theorem topL_zero (l : List UInt8) : topL (l ++ [48]) = topL l := by
  have := zerosR_le l
  unfold topL
  rw [zerosR_zero, List.length_append, List.take_append_of_le_length (by simp; try omega)]
  congr 1
  simp
theorem topL_one (l : List UInt8) : topL (l ++ [49]) = l ++ [49] := by
  unfold topL
  rw [zerosR_one, Nat.sub_zero, List.take_length]

theorem expoL_zero (l : List UInt8) (h : (48 : UInt8) ∈ topL l) : expoL (l ++ [48]) = zerosR l + 1 := by
  unfold expoL; rw [zerosR_zero, topL_zero, if_neg (fun k => k.2 h)]

def expsL (t : Tr) (here : List UInt8) : List Nat := (t.addrs ⟨here.toArray⟩).map fun a => expoL a.data.toList

theorem addrs_push (here : List UInt8) (c : UInt8) : (⟨here.toArray⟩ : ByteArray) ++ ⟨#[c]⟩ = ⟨(here ++ [c]).toArray⟩ := ba_ext (by simp)

theorem expsL_nd (l r : Tr) (here : List UInt8) : expsL (.nd l r) here = expsL l (here ++ [48]) ++ expsL r (here ++ [49]) := by
  unfold expsL
  rw [Tr.addrs, addrs_push, addrs_push, List.map_append]
theorem expsL_lf (here : List UInt8) : expsL .lf here = [expoL here] := by simp [expsL, Tr.addrs]

theorem mem_topL_zero {l : List UInt8} (h : (48 : UInt8) ∈ topL l) : (48 : UInt8) ∈ topL (l ++ [48]) := by rwa [topL_zero]
theorem mem_topL_one {l : List UInt8} (h : (48 : UInt8) ∈ l) : (48 : UInt8) ∈ topL (l ++ [49]) := by rw [topL_one]; simp [h]
theorem mem_of_topL {l : List UInt8} (h : (48 : UInt8) ∈ topL l) : (48 : UInt8) ∈ l := List.mem_of_mem_take h

/-- Below a place that some '0' and a '1' lead to. -/
theorem exps_in (t : Tr) : ∀ here : List UInt8, (48 : UInt8) ∈ topL here → expsL t here = t.expN (zerosR here) := by
  induction t with
  | lf => intro here h; rw [expsL_lf]; simp [expoL, h, Tr.expN]
  | nd l r ihl ihr =>
    intro here h
    rw [expsL_nd, ihl _ (mem_topL_zero h), ihr _ (mem_topL_one (mem_of_topL h)), zerosR_zero, zerosR_one]
    rfl
/-- Below a place that '1's and then '0's lead to. -/
theorem exps_left (t : Tr) : ∀ (here : List UInt8) (k : Nat), ¬ (48 : UInt8) ∈ topL here → zerosR here = k + 1 → expsL t here = t.expN k := by
  induction t with
  | lf => intro here k h hk; rw [expsL_lf]; simp [expoL, h, hk, Tr.expN]
  | nd l r ihl ihr =>
    intro here k h hk
    have h48 : (48 : UInt8) ∈ here := by
      have h1 : zerosR here ≠ 0 := by omega
      unfold zerosR at h1
      cases hr : here.reverse with
      | nil => rw [hr] at h1; simp at h1
      | cons c rest =>
        rw [hr, List.takeWhile_cons] at h1
        split at h1
        · next hc =>
          have : c ∈ here := by rw [← List.mem_reverse, hr]; simp
          rw [beq_iff_eq] at hc
          rwa [hc] at this
        · simp at h1
    rw [expsL_nd, ihl _ (k + 1) (by rw [topL_zero]; exact h) (by rw [zerosR_zero, hk]), exps_in r _ (mem_topL_one h48), zerosR_one]
    rfl
theorem exps_right (t : Tr) : ∀ here : List UInt8, ¬ (48 : UInt8) ∈ here → zerosR here = 0 → expsL t here = t.expR := by
  induction t with
  | lf => intro here h hz; rw [expsL_lf]; simp [expoL, hz, Tr.expR]
  | nd l r ihl ihr =>
    intro here h hz
    have ht : ¬ (48 : UInt8) ∈ topL (here ++ [48]) := by rw [topL_zero]; exact fun k => h (mem_of_topL k)
    rw [expsL_nd, exps_left l _ 0 ht (by rw [zerosR_zero, hz]), ihr _ (by simp [h]) (zerosR_one _)]
    rfl
/-- The program's exponents are those of the tree. -/
theorem exps_all (t : Tr) : (t.addrs ⟨#[]⟩).map (fun a => expoL a.data.toList) = t.expR := exps_right t [] (by simp) rfl

/-! Trees of exponents. -/
/-- Joins of the first two trees of a list. -/
def joinJ : Nat → List Tr → List Tr
  | 0, s => s
  | n + 1, t :: u :: r => joinJ n (.nd t u :: r)
  | _ + 1, s => s
/-- The trees of exponents, over n leaves behind them. -/
def stackD (n : Nat) : List Nat → List Tr
  | [] => List.replicate n .lf
  | e :: L => joinJ e (.lf :: stackD n L)
theorem joinJ_length : ∀ (e : Nat) (s : List Tr), e < s.length → (joinJ e s).length + e = s.length := by
  intro e
  induction e with
  | zero => intro s _; rfl
  | succ e ih =>
    intro s h
    match s, h with
    | [], h => simp at h
    | [_], h => simp at h
    | t :: u :: r, h => rw [joinJ]; have := ih (.nd t u :: r) (by simp at h ⊢; omega); simp at this ⊢; omega
theorem joinJ_app : ∀ (e : Nat) (s r : List Tr), e < s.length → joinJ e (s ++ r) = joinJ e s ++ r := by
  intro e
  induction e with
  | zero => intro s r _; rfl
  | succ e ih =>
    intro s r h
    match s, h with
    | [], h => simp at h
    | [_], h => simp at h
    | t :: u :: q, h =>
      show joinJ (e + 1) (t :: u :: (q ++ r)) = _
      rw [joinJ, joinJ]
      exact ih (.nd t u :: q) r (by simp at h ⊢; omega)
theorem stackD_length (n : Nat) : ∀ L : List Nat, L.sum ≤ n → (stackD n L).length + L.sum = n + L.length := by
  intro L
  induction L with
  | nil => intro _; simp [stackD]
  | cons e L ih =>
    intro h
    rw [List.sum_cons] at h
    have h1 := ih (by omega)
    have h2 := joinJ_length e (.lf :: stackD n L) (by simp; omega)
    rw [stackD]
    simp at h2 ⊢; omega
theorem stackD_more (n m : Nat) : ∀ L : List Nat, L.sum ≤ n → stackD (n + m) L = stackD n L ++ List.replicate m .lf := by
  intro L
  induction L with
  | nil => intro _; simp [stackD, List.replicate_append_replicate]
  | cons e L ih =>
    intro h
    rw [List.sum_cons] at h
    have h1 := stackD_length n L (by omega)
    rw [stackD, ih (by omega), stackD]
    exact joinJ_app e (.lf :: stackD n L) _ (by simp; omega)
theorem stackD_zeros (n m : Nat) : ∀ L : List Nat, stackD n (L ++ List.replicate m 0) = stackD (n + m) L := by
  intro L
  induction L with
  | nil =>
    show stackD n (List.replicate m 0) = List.replicate (n + m) .lf
    induction m with
    | zero => rfl
    | succ m ih => rw [List.replicate_succ, stackD, joinJ, ih]; rfl
  | cons e L ih => rw [List.cons_append, stackD, stackD, ih]
theorem stackD_expN (n : Nat) (t : Tr) : ∀ (w : Nat) (X : List Nat), stackD n (t.expN w ++ X) = joinJ w (t :: stackD n X) := by
  induction t with
  | lf => intro w X; rfl
  | nd l r ihl ihr =>
    intro w X
    rw [Tr.expN, List.append_assoc, ihl, ihr]
    rfl

/-- The tree with trees at the left sides of its right side. -/
def combT : List Tr → Tr
  | [] => .lf
  | t :: r => .nd t (combT r)
def sidesT : Tr → List Tr
  | .lf => []
  | .nd l r => l :: sidesT r
theorem comb_sides (t : Tr) : combT (sidesT t) = t := by
  induction t with
  | lf => rfl
  | nd l r _ ihr => rw [sidesT, combT, ihr]
theorem stackD_expR (n : Nat) (t : Tr) : stackD n t.expR = sidesT t ++ List.replicate (n + 1) Tr.lf := by
  induction t with
  | lf => rfl
  | nd l r _ ihr => rw [Tr.expR, stackD_expN, joinJ, ihr]; rfl
/-- A list of trees without leaves at its end. -/
def stripT (s : List Tr) : List Tr := (s.reverse.dropWhile Tr.isLf).reverse
theorem stripT_lf (s : List Tr) : ∀ m : Nat, stripT (s ++ List.replicate m Tr.lf) = stripT s := by
  intro m
  induction m with
  | zero => simp
  | succ m ih =>
    rw [List.replicate_succ', ← List.append_assoc]
    unfold stripT
    rw [List.reverse_append]
    show ((Tr.lf :: (s ++ List.replicate m Tr.lf).reverse).dropWhile Tr.isLf).reverse = _
    rw [List.dropWhile_cons_of_pos (by rfl)]
    exact ih
theorem stripT_last (s : List Tr) (t : Tr) (h : t.isLf = false) : stripT (s ++ [t]) = s ++ [t] := by
  unfold stripT
  rw [List.reverse_append]
  show ((t :: s.reverse).dropWhile Tr.isLf).reverse = _
  rw [List.dropWhile_cons_of_neg (by rw [h]; decide)]
  simp
/-- The tree of exponents as the model makes it. -/
def treeE (L : List Nat) : Tr := combT (stripT (stackD (L.sum + 1) L))
theorem treeE_of (L : List Nat) (t : Tr) (j : Nat) (h : t.expR = L ++ List.replicate j 0) (hl : t = .lf ∨ ∃ s u, sidesT t = s ++ [u] ∧ u.isLf = false) : treeE L = t := by
  have h1 := stackD_expR (L.sum + 1) t
  rw [h, stackD_zeros, stackD_more (L.sum + 1) j L (by omega)] at h1
  have h2 := congrArg stripT h1
  rw [stripT_lf, stripT_lf] at h2
  unfold treeE
  rw [h2]
  rcases hl with rfl | ⟨s, u, hs, hu⟩
  · rfl
  · rw [hs, stripT_last s u hu, ← hs, comb_sides]

end Go.Proofs.YtkoebmdocenlkabDoor
