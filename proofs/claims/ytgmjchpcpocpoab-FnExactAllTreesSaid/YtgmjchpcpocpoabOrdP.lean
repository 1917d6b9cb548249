/- The order of trees by their texts; all trees in order. No program is named here. -/
import Derived.Test.YtgmjchpcpocpoabTrFn
import Derived.Test.YtgmjchpcpocpoabCountP
namespace Go.Proofs.Ytgmjchpcpocpoab
open Go.Op (bytesLess)

namespace Tr
def eqB : Tr → Tr → Bool
  | lf, lf => true
  | nd l r, nd p q => l.eqB p && r.eqB q
  | _, _ => false
/-- The order of texts, read off the trees. -/
def lt : Tr → Tr → Bool
  | lf, _ => false
  | nd _ _, lf => true
  | nd l r, nd p q => l.lt p || (l.eqB p && r.lt q)
end Tr

theorem eqB_iff (t : Tr) : ∀ u : Tr, t.eqB u = true ↔ t = u := by
  induction t with
  | lf => intro u; cases u <;> simp [Tr.eqB]
  | nd l r ihl ihr => intro u; cases u with
    | lf => simp [Tr.eqB]
    | nd p q => simp [Tr.eqB, ihl, ihr]
theorem eqB_self (t : Tr) : t.eqB t = true := (eqB_iff t t).2 rfl
theorem lt_irrefl (t : Tr) : t.lt t = false := by
  induction t with
  | lf => rfl
  | nd l r ihl ihr => simp [Tr.lt, ihl, ihr]

theorem bytesLess_text (t : Tr) : ∀ (u : Tr) (q q' : List UInt8), bytesLess (t.text ++ q) (u.text ++ q') = (t.lt u || (t.eqB u && bytesLess q q')) := by
  induction t with
  | lf =>
    intro u q q'
    cases u with
    | lf => simp [Tr.text, bytesLess, Tr.lt, Tr.eqB]
    | nd a b => simp [Tr.text, bytesLess, Tr.lt, Tr.eqB]
  | nd l r ihl ihr =>
    intro u q q'
    cases u with
    | lf => simp [Tr.text, bytesLess, Tr.lt, Tr.eqB]
    | nd a b =>
      have e1 : (Tr.nd l r).text ++ q = 40 :: (l.text ++ (r.text ++ (41 :: q))) := by simp [Tr.text]
      have e2 : (Tr.nd a b).text ++ q' = 40 :: (a.text ++ (b.text ++ (41 :: q'))) := by simp [Tr.text]
      rw [e1, e2, bytesLess, ihl, ihr, bytesLess]
      simp only [Tr.lt, Tr.eqB]
      cases l.lt a <;> cases l.eqB a <;> cases r.lt b <;> cases r.eqB b <;> simp

theorem bytesLess_str (t u : Tr) : bytesLess t.str.toList u.str.toList = t.lt u := by
  have := bytesLess_text t u [] []
  rw [Lib.toList_data, Lib.toList_data, Tr.str_list, Tr.str_list]
  simpa [bytesLess] using this

/-! Lists of trees: m trees with c carets together, in the order of their texts. -/

/-- The order of lists of as many trees. -/
def ltL : List Tr → List Tr → Bool
  | t :: ts, u :: us => t.lt u || (t.eqB u && ltL ts us)
  | _, _ => false

def mkNd : List Tr → List Tr
  | l :: r :: ts => .nd l r :: ts
  | ts => ts

/-- All lists of m trees with c carets together, in order (fuel: 2 c + m). -/
def enumF : Nat → Nat → Nat → List (List Tr)
  | 0, _, c => if c = 0 then [[]] else []
  | k + 1, m, c =>
    if m = 0 then (if c = 0 then [[]] else [])
    else (if c = 0 then [] else (enumF k (m + 1) (c - 1)).map mkNd) ++ (enumF k (m - 1) c).map (.lf :: ·)

theorem mem_enumF (k : Nat) : ∀ (m c : Nat) (ts : List Tr), 2 * c + m ≤ k → (ts ∈ enumF k m c ↔ ts.length = m ∧ (ts.map Tr.carets).sum = c) := by
  induction k with
  | zero =>
    intro m c ts h
    obtain ⟨rfl, rfl⟩ : m = 0 ∧ c = 0 := by omega
    simp [enumF]
    intro h; subst h; rfl
  | succ k ih =>
    intro m c ts h
    rw [enumF]
    by_cases hm : m = 0
    · subst hm
      rw [if_pos rfl]
      by_cases hc : c = 0
      · subst hc
        simp
        intro h; subst h; rfl
      · rw [if_neg hc]
        simp
        intro h; subst h; simp; omega
    · rw [if_neg hm, List.mem_append]
      constructor
      · rintro (h1 | h1)
        · by_cases hc : c = 0
          · simp [hc] at h1
          · rw [if_neg hc, List.mem_map] at h1
            obtain ⟨us, h2, rfl⟩ := h1
            rw [ih _ _ _ (by omega)] at h2
            match us, h2 with
            | [], h2 => simp at h2
            | [_], h2 => simp at h2; omega
            | l :: r :: us, h2 => simp [mkNd, Tr.carets] at h2 ⊢; omega
        · rw [List.mem_map] at h1
          obtain ⟨us, h2, rfl⟩ := h1
          rw [ih _ _ _ (by omega)] at h2
          simp [Tr.carets]; omega
      · rintro ⟨h1, h2⟩
        match ts, h1, h2 with
        | [], h1, h2 => simp at h1; omega
        | .lf :: ts, h1, h2 =>
          right
          rw [List.mem_map]
          refine ⟨ts, ?_, rfl⟩
          rw [ih _ _ _ (by omega)]
          simp [Tr.carets] at h1 h2; omega
        | .nd l r :: ts, h1, h2 =>
          left
          simp [Tr.carets] at h1 h2
          rw [if_neg (by omega), List.mem_map]
          refine ⟨l :: r :: ts, ?_, rfl⟩
          rw [ih _ _ _ (by omega)]
          simp; omega

theorem ltL_mkNd {ts us : List Tr} (h1 : 2 ≤ ts.length) (h2 : 2 ≤ us.length) : ltL (mkNd ts) (mkNd us) = ltL ts us := by
  match ts, us, h1, h2 with
  | l :: r :: ts, p :: q :: us, _, _ =>
    simp only [mkNd, ltL, Tr.lt, Tr.eqB]
    cases l.lt p <;> cases l.eqB p <;> cases r.lt q <;> cases r.eqB q <;> simp

theorem enumF_sorted (k : Nat) : ∀ (m c : Nat), 2 * c + m ≤ k → (enumF k m c).Pairwise (fun a b => ltL a b = true) := by
  induction k with
  | zero => intro m c h; rw [enumF]; split <;> simp
  | succ k ih =>
    intro m c h
    rw [enumF]
    split
    · split <;> simp
    · next hm =>
      rw [List.pairwise_append]
      refine ⟨?_, ?_, ?_⟩
      · split
        · simp
        · rw [List.pairwise_map]
          refine (ih (m + 1) (c - 1) (by omega)).imp_of_mem ?_
          intro a b ha hb hab
          rw [mem_enumF k _ _ _ (by omega)] at ha hb
          rw [ltL_mkNd (by omega) (by omega)]; exact hab
      · rw [List.pairwise_map]
        refine (ih (m - 1) c (by omega)).imp ?_
        intro a b hab
        simp [ltL, Tr.lt, Tr.eqB, hab]
      · intro a ha b hb
        split at ha
        · simp at ha
        · rw [List.mem_map] at ha hb
          obtain ⟨us, h1, rfl⟩ := ha
          obtain ⟨vs, h2, rfl⟩ := hb
          rw [mem_enumF k _ _ _ (by omega)] at h1
          match us, h1 with
          | [], h1 => simp at h1
          | [_], h1 => simp at h1; omega
          | l :: r :: us, _ => simp [mkNd, ltL, Tr.lt]

/-- All trees with n carets, in order. -/
def treesN (n : Nat) : List Tr := (enumF (2 * n + 1) 1 n).map fun ts => ts.headD .lf

theorem mem_treesN (n : Nat) (t : Tr) : t ∈ treesN n ↔ t.carets = n := by
  unfold treesN
  rw [List.mem_map]
  constructor
  · rintro ⟨ts, h, rfl⟩
    rw [mem_enumF _ _ _ _ (by omega)] at h
    match ts, h with
    | [t], h => simpa using h.2
  · intro h
    refine ⟨[t], ?_, rfl⟩
    rw [mem_enumF _ _ _ _ (by omega)]
    simpa using h

theorem treesN_sorted (n : Nat) : (treesN n).Pairwise (fun a b => a.lt b = true) := by
  unfold treesN
  rw [List.pairwise_map]
  refine (enumF_sorted (2 * n + 1) 1 n (by omega)).imp_of_mem ?_
  intro a b ha hb hab
  rw [mem_enumF _ _ _ _ (by omega)] at ha hb
  match a, b, ha, hb with
  | [a], [b], _, _ => simpa [ltL] using hab

theorem treesN_nodup (n : Nat) : (treesN n).Nodup := by
  refine (treesN_sorted n).imp ?_
  intro a b h e
  subst e
  rw [lt_irrefl] at h
  simp at h

/-! Counting. -/
theorem listsN_rec : ∀ c, c ≤ 8 → ∀ m, m ≤ 17 → 2 * c + m ≤ 18 → listsN (m + 1) c = (if c = 0 then 0 else listsN (m + 2) (c - 1)) + (if m = 0 then (if c = 0 then 1 else 0) else listsN m c) := by decide

theorem enumF_length (k : Nat) : ∀ (m c : Nat), 2 * c + m ≤ k → c ≤ 8 → 2 * c + m ≤ 18 → (enumF k m c).length = if m = 0 then (if c = 0 then 1 else 0) else listsN m c := by
  induction k with
  | zero =>
    intro m c h _ _
    obtain ⟨rfl, rfl⟩ : m = 0 ∧ c = 0 := by omega
    rfl
  | succ k ih =>
    intro m c h h8 h18
    rw [enumF]
    by_cases hm : m = 0
    · subst hm; simp only [if_true]; split <;> rfl
    · rw [if_neg hm, if_neg hm]
      obtain ⟨m', rfl⟩ : ∃ m', m = m' + 1 := ⟨m - 1, by omega⟩
      have hr := listsN_rec c h8 m' (by omega) (by omega)
      rw [hr, List.length_append, List.length_map]
      have h2 := ih m' c (by omega) h8 (by omega)
      have e : m' + 1 - 1 = m' := by omega
      rw [e, h2]
      congr 1
      split
      · rfl
      · next hc =>
        rw [List.length_map, ih (m' + 1 + 1) (c - 1) (by omega) (by omega) (by omega), if_neg (by omega)]

theorem treesN_length (n : Nat) (h : n ≤ 8) : (treesN n).length = listsN 1 n := by
  unfold treesN
  rw [List.length_map, enumF_length _ _ _ (by omega) h (by omega)]
  rfl

theorem enumF_fuel (k : Nat) : ∀ (j m c : Nat), 2 * c + m ≤ k → 2 * c + m ≤ j → enumF k m c = enumF j m c := by
  induction k with
  | zero =>
    intro j m c h1 h2
    obtain ⟨rfl, rfl⟩ : m = 0 ∧ c = 0 := by omega
    cases j <;> rfl
  | succ k ih =>
    intro j m c h1 h2
    cases j with
    | zero =>
      obtain ⟨rfl, rfl⟩ : m = 0 ∧ c = 0 := by omega
      rfl
    | succ j =>
      rw [enumF, enumF]
      split
      · rfl
      · rw [ih j (m - 1) c (by omega) (by omega)]
        split
        · rfl
        · rw [ih j (m + 1) (c - 1) (by omega) (by omega)]

/-- All lists of m trees with c carets together, in order. -/
def enum (m c : Nat) : List (List Tr) := enumF (2 * c + m) m c
theorem enum_rec {m c : Nat} (h : 1 ≤ m) : enum m c = (if c = 0 then [] else (enum (m + 1) (c - 1)).map mkNd) ++ (enum (m - 1) c).map (.lf :: ·) := by
  unfold enum
  obtain ⟨k, hk⟩ : ∃ k, 2 * c + m = k + 1 := ⟨2 * c + m - 1, by omega⟩
  rw [hk, enumF, if_neg (by omega), enumF_fuel k (2 * c + (m - 1)) (m - 1) c (by omega) (by omega)]
  split
  · rfl
  · rw [enumF_fuel k (2 * (c - 1) + (m + 1)) (m + 1) (c - 1) (by omega) (by omega)]
theorem mem_enum {m c : Nat} {ts : List Tr} : ts ∈ enum m c ↔ ts.length = m ∧ (ts.map Tr.carets).sum = c := mem_enumF _ _ _ _ (Nat.le_refl _)
theorem enum_length {m c : Nat} (h8 : c ≤ 8) (h : 2 * c + m ≤ 18) (hm : 1 ≤ m) : (enum m c).length = listsN m c := by
  unfold enum
  rw [enumF_length _ _ _ (Nat.le_refl _) h8 h, if_neg (by omega)]
theorem enum_zero : enum 0 0 = [[]] := rfl

/-! The walk by ranks: where a list of trees is. -/

/-- How many lists have a caret first. -/
def frontN (m c : Nat) : Nat := if c = 0 then 0 else listsN (m + 1) (c - 1)

theorem front_length {m c : Nat} (h8 : c ≤ 8) (h : 2 * c + m ≤ 18) : (if c = 0 then [] else (enum (m + 1) (c - 1)).map mkNd).length = frontN m c := by
  unfold frontN
  split
  · rfl
  · rw [List.length_map, enum_length (by omega) (by omega) (by omega)]

/-- The first tree of the list with rank r, and where the rest is: trees, carets, rank. -/
def nextF : Nat → Nat → Nat → Nat → Tr × Nat × Nat × Nat
  | 0, m, c, r => (.lf, m, c, r)
  | k + 1, m, c, r =>
    if frontN m c ≤ r then (.lf, m - 1, c, r - frontN m c)
    else (.nd (nextF k (m + 1) (c - 1) r).1 (nextF k (nextF k (m + 1) (c - 1) r).2.1 (nextF k (m + 1) (c - 1) r).2.2.1 (nextF k (m + 1) (c - 1) r).2.2.2).1,
      (nextF k (nextF k (m + 1) (c - 1) r).2.1 (nextF k (m + 1) (c - 1) r).2.2.1 (nextF k (m + 1) (c - 1) r).2.2.2).2)

theorem nextF_get (k : Nat) : ∀ (m c r : Nat) (us : List Tr), 2 * c + m ≤ k → 1 ≤ m → c ≤ 8 → 2 * c + m ≤ 18 → (enum m c)[r]? = some us →
    ∃ ts, us = (nextF k m c r).1 :: ts ∧ (nextF k m c r).2.1 + 1 = m ∧ (nextF k m c r).2.2.1 + (nextF k m c r).1.carets = c ∧ (enum (m - 1) (nextF k m c r).2.2.1)[(nextF k m c r).2.2.2]? = some ts := by
  induction k with
  | zero => intro m c r us h h1; omega
  | succ k ih =>
    intro m c r us hk hm h8 h18 hget
    have hl := front_length (m := m) h8 h18
    rw [enum_rec hm] at hget
    rw [nextF]
    by_cases hf : frontN m c ≤ r
    · rw [if_pos hf]
      rw [List.getElem?_append_right (by omega), hl, List.getElem?_map] at hget
      cases h0 : (enum (m - 1) c)[r - frontN m c]? with
      | none => rw [h0] at hget; simp at hget
      | some ts =>
        rw [h0] at hget
        simp at hget
        exact ⟨ts, hget.symm, by show m - 1 + 1 = m; omega, by simp [Tr.carets], rfl⟩
    · rw [if_neg hf]
      rw [List.getElem?_append_left (by omega)] at hget
      have hc : ¬ c = 0 := by intro h; rw [if_pos h] at hget; simp at hget
      rw [if_neg hc, List.getElem?_map] at hget
      cases h0 : (enum (m + 1) (c - 1))[r]? with
      | none => rw [h0] at hget; simp at hget
      | some vs =>
        rw [h0] at hget
        simp at hget
        obtain ⟨ts1, e1, s1, s2, s3⟩ := ih (m + 1) (c - 1) r vs (by omega) (by omega) (by omega) (by omega) h0
        have hm1 : (nextF k (m + 1) (c - 1) r).2.1 = m := by omega
        obtain ⟨ts2, e2, q1, q2, q3⟩ := ih m (nextF k (m + 1) (c - 1) r).2.2.1 (nextF k (m + 1) (c - 1) r).2.2.2 ts1 (by omega) hm (by omega) (by omega) s3
        rw [hm1]
        refine ⟨ts2, ?_, q1, ?_, q3⟩
        · rw [← hget, e1, e2]; rfl
        · simp only [Tr.carets]; omega

/-- The tree with n carets and the rank r. -/
def treeAt (n r : Nat) : Tr := (nextF (2 * n + 1) 1 n r).1
theorem treesN_get (n r : Nat) (hn : n ≤ 8) (hr : r < listsN 1 n) : (treesN n)[r]? = some (treeAt n r) := by
  have hlen := enum_length (m := 1) hn (by omega) (Nat.le_refl _)
  have hx : r < (enum 1 n).length := by omega
  obtain ⟨ts, e, _, _, _⟩ := nextF_get (2 * n + 1) 1 n r _ (by omega) (Nat.le_refl _) hn (by omega) (List.getElem?_eq_getElem hx)
  unfold treesN
  show ((enum 1 n).map _)[r]? = _
  rw [List.getElem?_map, List.getElem?_eq_getElem hx, e]
  rfl
theorem treesN_eq (n : Nat) (hn : n ≤ 8) : treesN n = (List.range (listsN 1 n)).map (treeAt n) := by
  apply List.ext_getElem?
  intro r
  by_cases hr : r < listsN 1 n
  · rw [treesN_get n r hn hr, List.getElem?_map, List.getElem?_range hr]
    rfl
  · rw [List.getElem?_eq_none (by rw [treesN_length n hn]; omega), List.getElem?_eq_none (by simp; omega)]

/-- Where a walk along a tree ends: trees, carets, rank. -/
def rkT : Tr → Nat × Nat × Nat → Nat × Nat × Nat
  | .lf, s => (s.1 - 1, s.2.1, s.2.2 + frontN s.1 s.2.1)
  | .nd l r, s => rkT r (rkT l (s.1 + 1, s.2.1 - 1, s.2.2))

theorem rkT_get (t : Tr) : ∀ (m c r i : Nat) (ts : List Tr), 1 ≤ m → c ≤ 8 → 2 * c + m ≤ 18 → t.carets ≤ c → (enum (m - 1) (c - t.carets))[i]? = some ts →
    ∃ d, rkT t (m, c, r) = (m - 1, c - t.carets, r + d) ∧ (enum m c)[d + i]? = some (t :: ts) := by
  induction t with
  | lf =>
    intro m c r i ts hm h8 h18 ht hget
    refine ⟨frontN m c, rfl, ?_⟩
    have hl := front_length (m := m) h8 h18
    rw [enum_rec hm, List.getElem?_append_right (by omega), hl, Nat.add_sub_cancel_left, List.getElem?_map]
    have : (enum (m - 1) c)[i]? = some ts := hget
    rw [this]; rfl
  | nd l r ihl ihr =>
    intro m c x i ts hm h8 h18 ht hget
    simp only [Tr.carets] at ht hget ⊢
    have e1 : c - 1 - l.carets - r.carets = c - (l.carets + r.carets + 1) := by omega
    have h2 := fun x => ihr m (c - 1 - l.carets) x i ts hm (by omega) (by omega) (by omega) (by rw [e1]; exact hget)
    obtain ⟨d0, _, g0⟩ := h2 0
    obtain ⟨d1, f1, g1⟩ := ihl (m + 1) (c - 1) x (d0 + i) (r :: ts) (by omega) (by omega) (by omega) (by omega) (by rw [Nat.add_sub_cancel]; exact g0)
    obtain ⟨d2, f2, g2⟩ := h2 (x + d1)
    have hd : d2 + i = d0 + i := by
      have hn : (enum m (c - 1 - l.carets)).Nodup := by
        refine (enumF_sorted _ m (c - 1 - l.carets) (Nat.le_refl _)).imp ?_
        intro a b h e
        subst e
        have : ∀ a : List Tr, ltL a a = false := by
          intro a; induction a with
          | nil => rfl
          | cons t ts ih => simp [ltL, lt_irrefl, ih]
        rw [this] at h; simp at h
      have hx := List.getElem?_eq_some_iff.1 g2
      have hy := List.getElem?_eq_some_iff.1 g0
      exact (List.getElem_inj hn).1 (hx.2.trans hy.2.symm)
    refine ⟨d1 + d2, ?_, ?_⟩
    · rw [rkT]
      show rkT r (rkT l (m + 1, c - 1, x)) = _
      rw [f1, Nat.add_sub_cancel, f2, e1, Nat.add_assoc x d1 d2]
    · have hl := front_length (m := m) h8 h18
      have hlt := (List.getElem?_eq_some_iff.1 g1).1
      rw [enum_length (by omega) (by omega) (by omega)] at hlt
      have hfr : frontN m c = listsN (m + 1) (c - 1) := by unfold frontN; rw [if_neg (by omega)]
      rw [enum_rec hm, List.getElem?_append_left (by rw [hl]; omega), if_neg (by omega), List.getElem?_map]
      have e2 : d1 + d2 + i = d1 + (d0 + i) := by omega
      rw [e2, g1]; rfl

/-- The rank of a tree. -/
def rankT (t : Tr) : Nat := (rkT t (1, t.carets, 0)).2.2
theorem rankT_get (t : Tr) (h : t.carets ≤ 8) : (treesN t.carets)[rankT t]? = some t := by
  obtain ⟨d, f, g⟩ := rkT_get t 1 t.carets 0 0 [] (Nat.le_refl _) h (by omega) (Nat.le_refl _) (by rw [Nat.sub_self, Nat.sub_self, enum_zero]; rfl)
  have : rankT t = d := by unfold rankT; rw [f]; simp
  rw [this]
  unfold treesN
  show ((enum 1 t.carets).map _)[d]? = _
  rw [List.getElem?_map]
  have g' : (enum 1 t.carets)[d]? = some [t] := g
  rw [g']; rfl

/-- In a sorted list as many are less than one as are in front of it. -/
theorem countP_sorted {l : List Tr} (h : l.Pairwise (fun a b => a.lt b = true)) {i : Nat} {t : Tr} (hi : l[i]? = some t) : l.countP (fun u => u.lt t) = i := by
  induction l generalizing i with
  | nil => simp at hi
  | cons a l ih =>
    rw [List.pairwise_cons] at h
    cases i with
    | zero =>
      simp at hi
      subst hi
      rw [List.countP_cons_of_neg (by rw [lt_irrefl]; simp)]
      rw [List.countP_eq_zero]
      intro b hb hba
      have := h.1 b hb
      have asym : ∀ x y : Tr, x.lt y = true → y.lt x = true → False := by
        intro x
        induction x with
        | lf => intro y h; simp [Tr.lt] at h
        | nd l r ihl ihr =>
          intro y h1 h2
          cases y with
          | lf => simp [Tr.lt] at h2
          | nd p q =>
            simp [Tr.lt, eqB_iff] at h1 h2
            rcases h1 with h1 | ⟨rfl, h1⟩
            · rcases h2 with h2 | ⟨rfl, h2⟩
              · exact ihl _ h1 h2
              · rw [lt_irrefl] at h1; simp at h1
            · rcases h2 with h2 | ⟨_, h2⟩
              · rw [lt_irrefl] at h2; simp at h2
              · exact ihr _ h1 h2
      exact asym _ _ this hba
    | succ i =>
      have hi' : l[i]? = some t := by simpa using hi
      have hm : t ∈ l := List.mem_of_getElem? hi'
      have := ih h.2 hi'
      rw [List.countP_cons_of_pos (by exact h.1 t hm), this]

theorem lt_total (t : Tr) : ∀ u : Tr, t.lt u = true ∨ t = u ∨ u.lt t = true := by
  induction t with
  | lf => intro u; cases u with
    | lf => exact .inr (.inl rfl)
    | nd p q => exact .inr (.inr rfl)
  | nd l r ihl ihr =>
    intro u
    cases u with
    | lf => exact .inl rfl
    | nd p q =>
      simp only [Tr.lt, Bool.or_eq_true, Bool.and_eq_true, eqB_iff]
      rcases ihl p with h | rfl | h
      · exact .inl (.inl h)
      · rcases ihr q with h | rfl | h
        · exact .inl (.inr ⟨rfl, h⟩)
        · exact .inr (.inl rfl)
        · exact .inr (.inr (.inr ⟨rfl, h⟩))
      · exact .inr (.inr (.inl h))

/-! The spec's list, before it is sorted. -/
/-- All trees with n + 1 carets, by the carets of the left side. -/
def rawT (n : Nat) : List Tr := (List.range (n + 1)).flatMap fun i => (treesN i).flatMap fun l => (treesN (n - i)).map fun r => .nd l r

theorem mem_rawT (n : Nat) (t : Tr) : t ∈ rawT n ↔ t.carets = n + 1 := by
  unfold rawT
  simp only [List.mem_flatMap, List.mem_range, List.mem_map, mem_treesN]
  constructor
  · rintro ⟨i, hi, l, rfl, r, hr, rfl⟩
    simp [Tr.carets]; omega
  · intro h
    cases t with
    | lf => simp [Tr.carets] at h
    | nd l r =>
      simp [Tr.carets] at h
      exact ⟨l.carets, by omega, l, rfl, r, by omega, rfl⟩

theorem nodup_flatMap {α β : Type} {l : List α} {f : α → List β} (h1 : ∀ x ∈ l, (f x).Nodup) (h2 : l.Pairwise (fun x y => ∀ b, b ∈ f x → b ∈ f y → False)) : (l.flatMap f).Nodup := by
  induction l with
  | nil => simp
  | cons a l ih =>
    rw [List.pairwise_cons] at h2
    rw [List.flatMap_cons, List.nodup_append]
    refine ⟨h1 a (by simp), ih (fun x hx => h1 x (by simp [hx])) h2.2, ?_⟩
    intro b hb c hc e
    subst e
    rw [List.mem_flatMap] at hc
    obtain ⟨y, hy, hby⟩ := hc
    exact h2.1 y hy b hb hby

theorem rawT_nodup (n : Nat) : (rawT n).Nodup := by
  unfold rawT
  refine nodup_flatMap ?_ ?_
  · intro i _
    refine nodup_flatMap ?_ ?_
    · intro l _
      rw [List.nodup_iff_pairwise_ne, List.pairwise_map]
      refine (treesN_nodup _).imp ?_
      intro a b hne e
      injection e with e1 e2
      exact hne e2
    · refine (treesN_nodup i).imp ?_
      intro l l' hne b h1 h2
      simp only [List.mem_map] at h1 h2
      obtain ⟨r, _, rfl⟩ := h1
      obtain ⟨r', _, e⟩ := h2
      injection e with e1 e2
      exact hne e1.symm
  · refine List.nodup_range.imp ?_
    intro i j hne b h1 h2
    simp only [List.mem_flatMap, List.mem_map, mem_treesN] at h1 h2
    obtain ⟨l, hl, r, _, rfl⟩ := h1
    obtain ⟨l', hl', r', _, e⟩ := h2
    injection e with e1 e2
    subst e1
    exact hne (hl.symm.trans hl')

/-- Whatever is sorted and holds the same trees is the list in order. -/
theorem sorted_eq {n : Nat} {l : List Tr} (hs : l.Pairwise (fun a b => a.lt b = true)) (hp : List.Perm l (rawT n)) : l = treesN (n + 1) := by
  have h1 : List.Perm l (treesN (n + 1)) := by
    refine hp.trans ((List.perm_ext_iff_of_nodup (rawT_nodup n) (treesN_nodup _)).2 ?_)
    intro t
    rw [mem_rawT, mem_treesN]
  refine List.Perm.eq_of_pairwise ?_ hs (treesN_sorted _) h1
  intro a b _ _ hab hba
  exfalso
  have := countP_sorted (l := [a, b]) (i := 1) (t := b) (by simpa using hab) rfl
  have h2 := countP_sorted (l := [b, a]) (i := 1) (t := a) (by simpa using hba) rfl
  have h3 := countP_sorted (l := [a, b]) (i := 0) (t := a) (by simpa using hab) rfl
  simp [lt_irrefl, hba] at h3
end Go.Proofs.Ytgmjchpcpocpoab
