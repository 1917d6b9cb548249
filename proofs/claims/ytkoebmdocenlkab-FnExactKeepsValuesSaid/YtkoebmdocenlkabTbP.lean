/- Tables of products, values of trees, lists of numbers that count on. No program is named here. -/
import Derived.Test.YtkoebmdocenlkabTrFn
namespace Go.Proofs.Ytkoebmdocenlkab

def inB (n : Nat) (x : Int) : Bool := decide (0 ≤ x) && decide (x < n)
theorem inB_iff {n : Nat} {x : Int} : inB n x = true ↔ 0 ≤ x ∧ x < n := by simp [inB]
def rowB (n : Nat) (row : List Int) : Bool := decide (row.length = n) && row.all (inB n)
/-- The rows are a table. -/
def tabB (T : List (List Int)) : Bool := decide (1 ≤ T.length) && decide (T.length ≤ 4) && T.all (rowB T.length)
def prd (T : List (List Int)) (i j : Int) : Int := (T.getD i.toNat []).getD j.toNat 0
/-- The value of a tree for the first numbers of a list. -/
def valT (T : List (List Int)) : Tr → List Int → Int
  | .lf, vs => vs.getD 0 0
  | .nd l r, vs => prd T (valT T l vs) (valT T r (vs.drop (l.carets + 1)))

theorem getD_mem {α : Type} {l : List α} {i : Nat} {d : α} (h : i < l.length) : l.getD i d ∈ l := by
  rw [List.getD_eq_getElem?_getD, List.getElem?_eq_getElem h]; exact List.getElem_mem h
theorem tabB_len {T : List (List Int)} (h : tabB T = true) : 1 ≤ T.length ∧ T.length ≤ 4 := by
  unfold tabB at h; simp at h; omega
theorem tabB_row {T : List (List Int)} (h : tabB T = true) {i : Nat} (hi : i < T.length) : (T.getD i []).length = T.length ∧ ∀ x ∈ T.getD i [], 0 ≤ x ∧ x < T.length := by
  unfold tabB at h
  rw [Bool.and_eq_true] at h
  have := List.all_eq_true.1 h.2 _ (getD_mem (d := []) hi)
  unfold rowB at this
  rw [Bool.and_eq_true] at this
  refine ⟨by simpa using this.1, fun x hx => inB_iff.1 (List.all_eq_true.1 this.2 x hx)⟩
theorem prd_in {T : List (List Int)} (h : tabB T = true) {i j : Int} (hi : 0 ≤ i ∧ i < T.length) (hj : 0 ≤ j ∧ j < T.length) : 0 ≤ prd T i j ∧ prd T i j < T.length := by
  obtain ⟨h1, h2⟩ := tabB_row h (i := i.toNat) (by omega)
  exact h2 _ (getD_mem (by omega))
theorem getD_drop {α : Type} (l : List α) (k i : Nat) (d : α) : (l.drop k).getD i d = l.getD (k + i) d := by
  simp [List.getD_eq_getElem?_getD]
theorem valT_in {T : List (List Int)} (h : tabB T = true) (t : Tr) : ∀ vs : List Int, t.carets + 1 ≤ vs.length → (∀ x ∈ vs, 0 ≤ x ∧ x < T.length) → 0 ≤ valT T t vs ∧ valT T t vs < T.length := by
  induction t with
  | lf => intro vs hl hv; exact hv _ (getD_mem (by simp [Tr.carets] at hl; omega))
  | nd l r ihl ihr =>
    intro vs hl hv
    simp only [Tr.carets] at hl
    exact prd_in h (ihl vs (by omega) hv) (ihr _ (by rw [List.length_drop]; omega) (fun x hx => hv x (List.mem_of_mem_drop hx)))
theorem valT_take (T : List (List Int)) (t : Tr) : ∀ (vs : List Int) (k : Nat), t.carets + 1 ≤ k → valT T t (vs.take k) = valT T t vs := by
  induction t with
  | lf =>
    intro vs k h
    show (vs.take k).getD 0 0 = vs.getD 0 0
    cases vs with
    | nil => simp
    | cons x vs => cases k with | zero => omega | succ k => simp
  | nd l r ihl ihr =>
    intro vs k h
    simp only [Tr.carets] at h
    show prd T (valT T l (vs.take k)) (valT T r ((vs.take k).drop _)) = prd T (valT T l vs) (valT T r (vs.drop _))
    rw [ihl vs k (by omega), List.drop_take, ihr _ _ (by omega)]
theorem valT_app (T : List (List Int)) (t : Tr) (vs us : List Int) (h : t.carets + 1 ≤ vs.length) : valT T t (vs ++ us) = valT T t vs := by
  rw [← valT_take T t (vs ++ us) vs.length h, List.take_left]

/-! Numbers that count on. -/
/-- The lexicographically next list, and whether there is one. -/
def cntOn (n : Nat) : List Int → List Int × Bool
  | [] => ([], false)
  | x :: xs => if (cntOn n xs).2 then (x :: (cntOn n xs).1, true) else if x + 1 < n then ((x + 1) :: (cntOn n xs).1, true) else (0 :: (cntOn n xs).1, false)
theorem cntOn_len (n : Nat) (l : List Int) : (cntOn n l).1.length = l.length := by
  induction l with
  | nil => rfl
  | cons x xs ih => rw [cntOn]; split <;> (try split) <;> simp [ih]
theorem cntOn_no {n : Nat} {l : List Int} (h : (cntOn n l).2 = false) : (cntOn n l).1 = List.replicate l.length 0 := by
  induction l with
  | nil => rfl
  | cons x xs ih =>
    rw [cntOn] at h ⊢
    split at h
    · simp at h
    · next g =>
      split at h
      · simp at h
      · next k =>
        rw [if_neg g, if_neg k]
        simp only
        rw [ih (by simpa using g)]
        rfl
theorem cntOn_app {n : Nat} {B : List Int} (hB : (cntOn n B).2 = false) (A : List Int) {x : Int} (hx : x + 1 < n) : cntOn n (A ++ x :: B) = (A ++ (x + 1) :: List.replicate B.length 0, true) := by
  induction A with
  | nil => rw [List.nil_append, cntOn, hB, cntOn_no hB]; simp [hx]
  | cons a A ih => rw [List.cons_append, cntOn, ih]; simp
theorem cntOn_cons_no {n : Nat} {B : List Int} (hB : (cntOn n B).2 = false) {x : Int} (hx : ¬ x + 1 < n) : (cntOn n (x :: B)).2 = false := by
  rw [cntOn, hB]; simp [hx]

/-- The digits of a number. -/
def digN (n : Nat) : Nat → Nat → List Int
  | 0, _ => []
  | m + 1, c => ((c / n ^ m : Nat) : Int) :: digN n m (c % n ^ m)
theorem digN_len (n m : Nat) : ∀ c, (digN n m c).length = m := by
  induction m with
  | zero => intro c; rfl
  | succ m ih => intro c; simp [digN, ih]
theorem digN_in {n : Nat} (hn : 0 < n) (m : Nat) : ∀ c, c < n ^ m → ∀ x ∈ digN n m c, 0 ≤ x ∧ x < n := by
  induction m with
  | zero => intro c _ x h; simp [digN] at h
  | succ m ih =>
    intro c hc x h
    rw [digN, List.mem_cons] at h
    have hp : 0 < n ^ m := Nat.pow_pos hn
    rcases h with rfl | h
    · have : c / n ^ m < n := by rw [Nat.div_lt_iff_lt_mul hp]; rw [Nat.pow_succ] at hc; rwa [Nat.mul_comm]
      generalize c / n ^ m = q at this ⊢
      exact ⟨by omega, by omega⟩
    · exact ih _ (Nat.mod_lt _ hp) x h
theorem digN_zero (n m : Nat) : digN n m 0 = List.replicate m 0 := by
  induction m with
  | zero => rfl
  | succ m ih => rw [digN, Nat.zero_div, Nat.zero_mod, ih]; rfl
theorem cntOn_digN {n : Nat} (hn : 0 < n) (m : Nat) : ∀ c, c < n ^ m → (cntOn n (digN n m c)).2 = decide (c + 1 < n ^ m) ∧ (c + 1 < n ^ m → (cntOn n (digN n m c)).1 = digN n m (c + 1)) := by
  induction m with
  | zero =>
    intro c hc
    have : c = 0 := by simpa using hc
    subst this
    simp [digN, cntOn]
  | succ m ih =>
    intro c hc
    have hp : 0 < n ^ m := Nat.pow_pos hn
    obtain ⟨h1, h2⟩ := ih (c % n ^ m) (Nat.mod_lt _ hp)
    have hd := Nat.div_add_mod c (n ^ m)
    have hlt := Nat.mod_lt c hp
    have hq : c / n ^ m < n := by rw [Nat.div_lt_iff_lt_mul hp]; rw [Nat.pow_succ] at hc; rwa [Nat.mul_comm]
    rw [digN, cntOn, h1, digN]
    have hpp : n ^ (m + 1) = n ^ m * n := Nat.pow_succ ..
    generalize n ^ m = N at *
    generalize c / N = q at *
    generalize hr : c % N = r at *
    by_cases hc1 : r + 1 < N
    · have e1 : (c + 1) / N = q := by
        rw [← hd, Nat.add_assoc, Nat.mul_add_div hp, Nat.div_eq_of_lt hc1]; simp
      have e2 : (c + 1) % N = r + 1 := by
        rw [← hd, Nat.add_assoc, Nat.mul_add_mod, Nat.mod_eq_of_lt hc1]
      have h3 : c + 1 < n ^ (m + 1) := by
        rw [hpp]
        have : N * q + N ≤ N * n := by rw [← Nat.mul_succ]; exact Nat.mul_le_mul_left N hq
        omega
      rw [e1, e2, if_pos (by simpa using hc1)]
      exact ⟨by simpa using h3, fun _ => by simp only; rw [h2 hc1]⟩
    · have hr1 : r + 1 = N := by omega
      rw [if_neg (by simpa using hc1)]
      have e0 : c + 1 = N * (q + 1) := by rw [Nat.mul_succ]; omega
      have e1 : (c + 1) / N = q + 1 := by rw [e0, Nat.mul_div_cancel_left _ hp]
      have e2 : (c + 1) % N = 0 := by rw [e0, Nat.mul_mod_right]
      have hno : (cntOn n (digN n m r)).2 = false := by rw [h1]; simpa using hc1
      by_cases hq1 : q + 1 < n
      · rw [if_pos (by omega), e1, e2]
        have h3 : c + 1 < n ^ (m + 1) := by rw [hpp, e0]; exact Nat.mul_lt_mul_of_pos_left hq1 hp
        refine ⟨by simpa using h3, fun _ => ?_⟩
        simp only
        rw [cntOn_no hno, digN_len, digN_zero]
        simp
      · rw [if_neg (by omega)]
        have h3 : ¬ c + 1 < n ^ (m + 1) := by
          rw [hpp, e0]
          have : q + 1 = n := by omega
          rw [this]; omega
        exact ⟨by simp [h3], fun h => absurd h h3⟩

/-- Where both trees have different values. -/
def chB (T : List (List Int)) (t u : Tr) (c : Nat) : Bool := valT T t (digN T.length (t.carets + 1) c) != valT T u (digN T.length (t.carets + 1) c)
/-- The first list of numbers at the leaves for which the values differ. -/
def firstC (T : List (List Int)) (t u : Tr) : Option Nat := (List.range (T.length ^ (t.carets + 1))).find? (chB T t u)
theorem find_range {N : Nat} {p : Nat → Bool} {c : Nat} (hc : c < N) (hp : p c = true) (hb : ∀ d, d < c → p d = false) : (List.range N).find? p = some c := by
  rw [List.find?_range_eq_some]
  exact ⟨hp, by simpa using hc, fun j hj => by simp [hb j hj]⟩
theorem find_range_none {N : Nat} {p : Nat → Bool} (hb : ∀ d, d < N → p d = false) : (List.range N).find? p = none := by
  rw [List.find?_eq_none]
  intro x hx
  simp [hb x (by simpa using hx)]
theorem firstC_some {T : List (List Int)} {t u : Tr} {c : Nat} (hc : c < T.length ^ (t.carets + 1)) (hp : chB T t u c = true) (hb : ∀ d, d < c → chB T t u d = false) : firstC T t u = some c := find_range hc hp hb
theorem firstC_none {T : List (List Int)} {t u : Tr} (hb : ∀ d, d < T.length ^ (t.carets + 1) → chB T t u d = false) : firstC T t u = none := find_range_none hb

/-! The values kept for all numbers that go on a list. -/
def kpB (T : List (List Int)) (t u : Tr) : Nat → List Int → Bool
  | 0, vs => valT T t vs == valT T u vs
  | r + 1, vs => (List.range T.length).all fun x => kpB T t u r (vs ++ [(x : Int)])
theorem kpB_iff {T : List (List Int)} (hn : 0 < T.length) {t u : Tr} (r : Nat) : ∀ vs, kpB T t u r vs = true ↔ ∀ c, c < T.length ^ r → valT T t (vs ++ digN T.length r c) = valT T u (vs ++ digN T.length r c) := by
  induction r with
  | zero =>
    intro vs
    rw [kpB, beq_iff_eq]
    constructor
    · intro h c _; simpa [digN] using h
    · intro h; simpa [digN] using h 0 (by simp)
  | succ r ih =>
    intro vs
    rw [kpB, List.all_eq_true]
    have hp : 0 < T.length ^ r := Nat.pow_pos hn
    constructor
    · intro h c hc
      have hq : c / T.length ^ r < T.length := by rw [Nat.div_lt_iff_lt_mul hp]; rw [Nat.pow_succ] at hc; rwa [Nat.mul_comm]
      have := (ih _).1 (h (c / T.length ^ r) (by simpa using hq)) (c % T.length ^ r) (Nat.mod_lt _ hp)
      rw [digN]
      simpa using this
    · intro h x hx
      rw [ih]
      intro c hc
      have hx' : x < T.length := by simpa using hx
      have e1 : (T.length ^ r * x + c) / T.length ^ r = x := by rw [Nat.mul_add_div hp, Nat.div_eq_of_lt hc]; simp
      have e2 : (T.length ^ r * x + c) % T.length ^ r = c := by rw [Nat.mul_add_mod, Nat.mod_eq_of_lt hc]
      have h3 : T.length ^ r * x + c < T.length ^ (r + 1) := by
        rw [Nat.pow_succ]
        have : T.length ^ r * x + T.length ^ r ≤ T.length ^ r * T.length := by rw [← Nat.mul_succ]; exact Nat.mul_le_mul_left _ hx'
        omega
      have := h _ h3
      rw [digN, e1, e2] at this
      simpa using this
theorem keeps_eq {T : List (List Int)} (hn : 0 < T.length) (t u : Tr) : kpB T t u (t.carets + 1) [] = (firstC T t u).isNone := by
  cases h : firstC T t u with
  | none =>
    rw [Option.isNone_none, kpB_iff hn]
    intro c hc
    unfold firstC at h
    rw [List.find?_eq_none] at h
    have := h c (by simpa using hc)
    simpa [chB] using this
  | some c =>
    rw [Option.isNone_some]
    unfold firstC at h
    rw [List.find?_range_eq_some] at h
    cases k : kpB T t u (t.carets + 1) [] with
    | false => rfl
    | true =>
      rw [kpB_iff hn] at k
      have := k c (by simpa using h.2.1)
      have h1 := h.1
      simp [chB] at h1
      simp at this
      exact absurd this h1
end Go.Proofs.Ytkoebmdocenlkab
