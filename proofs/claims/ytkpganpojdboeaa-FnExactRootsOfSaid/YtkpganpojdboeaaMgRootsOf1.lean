/- Texts that the claim needs, part 2. -/
import Derived.Test.YtkpganpojdboeaaMgRootsOf0
import Derived.Lib.Bytealg
import Derived.Maps.AppendAt
import Derived.Lib.SmallJoins
/-! OrdP -/
namespace Go.Proofs.Ytkpganpojdboeaa
open Go.Op (bytesLess)

namespace Tr
def eqB : Tr → Tr → Bool
  | lf, lf => true
  | nd l r, nd p q => l.eqB p && r.eqB q
  | _, _ => false
/-- The order of texts, read off the trees. -/
def lt : Tr → Tr → Bool
  | lf, _ => false
  | nd _ _, lf => true
  | nd l r, nd p q => l.lt p || (l.eqB p && r.lt q)
end Tr

theorem eqB_iff (t : Tr) : ∀ u : Tr, t.eqB u = true ↔ t = u := by
  induction t with
  | lf => intro u; cases u <;> simp [Tr.eqB]
  | nd l r ihl ihr => intro u; cases u with
    | lf => simp [Tr.eqB]
    | nd p q => simp [Tr.eqB, ihl, ihr]
theorem eqB_self (t : Tr) : t.eqB t = true := (eqB_iff t t).2 rfl
theorem lt_irrefl (t : Tr) : t.lt t = false := by
  induction t with
  | lf => rfl
  | nd l r ihl ihr => simp [Tr.lt, ihl, ihr]

theorem bytesLess_text (t : Tr) : ∀ (u : Tr) (q q' : List UInt8), bytesLess (t.text ++ q) (u.text ++ q') = (t.lt u || (t.eqB u && bytesLess q q')) := by
  induction t with
  | lf =>
    intro u q q'
    cases u with
    | lf => simp [Tr.text, bytesLess, Tr.lt, Tr.eqB]
    | nd a b => simp [Tr.text, bytesLess, Tr.lt, Tr.eqB]
  | nd l r ihl ihr =>
    intro u q q'
    cases u with
    | lf => simp [Tr.text, bytesLess, Tr.lt, Tr.eqB]
    | nd a b =>
      have e1 : (Tr.nd l r).text ++ q = 40 :: (l.text ++ (r.text ++ (41 :: q))) := by simp [Tr.text]
      have e2 : (Tr.nd a b).text ++ q' = 40 :: (a.text ++ (b.text ++ (41 :: q'))) := by simp [Tr.text]
      rw [e1, e2, bytesLess, ihl, ihr, bytesLess]
      simp only [Tr.lt, Tr.eqB]
      cases l.lt a <;> cases l.eqB a <;> cases r.lt b <;> cases r.eqB b <;> simp

theorem bytesLess_str (t u : Tr) : bytesLess t.str.toList u.str.toList = t.lt u := by
  have := bytesLess_text t u [] []
  rw [Lib.toList_data, Lib.toList_data, Tr.str_list, Tr.str_list]
  simpa [bytesLess] using this

/-! Lists of trees: m trees with c carets together, in the order of their texts. -/

/-- The order of lists of as many trees. -/
def ltL : List Tr → List Tr → Bool
  | t :: ts, u :: us => t.lt u || (t.eqB u && ltL ts us)
  | _, _ => false

def mkNd : List Tr → List Tr
  | l :: r :: ts => .nd l r :: ts
  | ts => ts

/-- All lists of m trees with c carets together, in order (fuel: 2 c + m). -/
def enumF : Nat → Nat → Nat → List (List Tr)
  | 0, _, c => if c = 0 then [[]] else []
  | k + 1, m, c =>
    if m = 0 then (if c = 0 then [[]] else [])
    else (if c = 0 then [] else (enumF k (m + 1) (c - 1)).map mkNd) ++ (enumF k (m - 1) c).map (.lf :: ·)

theorem mem_enumF (k : Nat) : ∀ (m c : Nat) (ts : List Tr), 2 * c + m ≤ k → (ts ∈ enumF k m c ↔ ts.length = m ∧ (ts.map Tr.carets).sum = c) := by
  induction k with
  | zero =>
    intro m c ts h
    obtain ⟨rfl, rfl⟩ : m = 0 ∧ c = 0 := by omega
    simp [enumF]
    intro h; subst h; rfl
  | succ k ih =>
    intro m c ts h
    rw [enumF]
    by_cases hm : m = 0
    · subst hm
      rw [if_pos rfl]
      by_cases hc : c = 0
      · subst hc
        simp
        intro h; subst h; rfl
      · rw [if_neg hc]
        simp
        intro h; subst h; simp; omega
    · rw [if_neg hm, List.mem_append]
      constructor
      · rintro (h1 | h1)
        · by_cases hc : c = 0
          · simp [hc] at h1
          · rw [if_neg hc, List.mem_map] at h1
            obtain ⟨us, h2, rfl⟩ := h1
            rw [ih _ _ _ (by omega)] at h2
            match us, h2 with
            | [], h2 => simp at h2
            | [_], h2 => simp at h2; omega
            | l :: r :: us, h2 => simp [mkNd, Tr.carets] at h2 ⊢; omega
        · rw [List.mem_map] at h1
          obtain ⟨us, h2, rfl⟩ := h1
          rw [ih _ _ _ (by omega)] at h2
          simp [Tr.carets]; omega
      · rintro ⟨h1, h2⟩
        match ts, h1, h2 with
        | [], h1, h2 => simp at h1; omega
        | .lf :: ts, h1, h2 =>
          right
          rw [List.mem_map]
          refine ⟨ts, ?_, rfl⟩
          rw [ih _ _ _ (by omega)]
          simp [Tr.carets] at h1 h2; omega
        | .nd l r :: ts, h1, h2 =>
          left
          simp [Tr.carets] at h1 h2
          rw [if_neg (by omega), List.mem_map]
          refine ⟨l :: r :: ts, ?_, rfl⟩
          rw [ih _ _ _ (by omega)]
          simp; omega

theorem ltL_mkNd {ts us : List Tr} (h1 : 2 ≤ ts.length) (h2 : 2 ≤ us.length) : ltL (mkNd ts) (mkNd us) = ltL ts us := by
  match ts, us, h1, h2 with
  | l :: r :: ts, p :: q :: us, _, _ =>
    simp only [mkNd, ltL, Tr.lt, Tr.eqB]
    cases l.lt p <;> cases l.eqB p <;> cases r.lt q <;> cases r.eqB q <;> simp

theorem enumF_sorted (k : Nat) : ∀ (m c : Nat), 2 * c + m ≤ k → (enumF k m c).Pairwise (fun a b => ltL a b = true) := by
  induction k with
  | zero => intro m c h; rw [enumF]; split <;> simp
  | succ k ih =>
    intro m c h
    rw [enumF]
    split
    · split <;> simp
    · next hm =>
      rw [List.pairwise_append]
      refine ⟨?_, ?_, ?_⟩
      · split
        · simp
        · rw [List.pairwise_map]
          refine (ih (m + 1) (c - 1) (by omega)).imp_of_mem ?_
          intro a b ha hb hab
          rw [mem_enumF k _ _ _ (by omega)] at ha hb
          rw [ltL_mkNd (by omega) (by omega)]; exact hab
      · rw [List.pairwise_map]
        refine (ih (m - 1) c (by omega)).imp ?_
        intro a b hab
        simp [ltL, Tr.lt, Tr.eqB, hab]
      · intro a ha b hb
        split at ha
        · simp at ha
        · rw [List.mem_map] at ha hb
          obtain ⟨us, h1, rfl⟩ := ha
          obtain ⟨vs, h2, rfl⟩ := hb
          rw [mem_enumF k _ _ _ (by omega)] at h1
          match us, h1 with
          | [], h1 => simp at h1
          | [_], h1 => simp at h1; omega
          | l :: r :: us, _ => simp [mkNd, ltL, Tr.lt]

/-- All trees with n carets, in order. -/
def treesN (n : Nat) : List Tr := (enumF (2 * n + 1) 1 n).map fun ts => ts.headD .lf

theorem mem_treesN (n : Nat) (t : Tr) : t ∈ treesN n ↔ t.carets = n := by
  unfold treesN
  rw [List.mem_map]
  constructor
  · rintro ⟨ts, h, rfl⟩
    rw [mem_enumF _ _ _ _ (by omega)] at h
    match ts, h with
    | [t], h => simpa using h.2
  · intro h
    refine ⟨[t], ?_, rfl⟩
    rw [mem_enumF _ _ _ _ (by omega)]
    simpa using h

theorem treesN_sorted (n : Nat) : (treesN n).Pairwise (fun a b => a.lt b = true) := by
  unfold treesN
  rw [List.pairwise_map]
  refine (enumF_sorted (2 * n + 1) 1 n (by omega)).imp_of_mem ?_
  intro a b ha hb hab
  rw [mem_enumF _ _ _ _ (by omega)] at ha hb
  match a, b, ha, hb with
  | [a], [b], _, _ => simpa [ltL] using hab

theorem treesN_nodup (n : Nat) : (treesN n).Nodup := by
  refine (treesN_sorted n).imp ?_
  intro a b h e
  subst e
  rw [lt_irrefl] at h
  simp at h

/-! Counting. -/
theorem listsN_rec : ∀ c, c ≤ 8 → ∀ m, m ≤ 17 → 2 * c + m ≤ 18 → listsN (m + 1) c = (if c = 0 then 0 else listsN (m + 2) (c - 1)) + (if m = 0 then (if c = 0 then 1 else 0) else listsN m c) := by decide

theorem enumF_length (k : Nat) : ∀ (m c : Nat), 2 * c + m ≤ k → c ≤ 8 → 2 * c + m ≤ 18 → (enumF k m c).length = if m = 0 then (if c = 0 then 1 else 0) else listsN m c := by
  induction k with
  | zero =>
    intro m c h _ _
    obtain ⟨rfl, rfl⟩ : m = 0 ∧ c = 0 := by omega
    rfl
  | succ k ih =>
    intro m c h h8 h18
    rw [enumF]
    by_cases hm : m = 0
    · subst hm; simp only [if_true]; split <;> rfl
    · rw [if_neg hm, if_neg hm]
      obtain ⟨m', rfl⟩ : ∃ m', m = m' + 1 := ⟨m - 1, by omega⟩
      have hr := listsN_rec c h8 m' (by omega) (by omega)
      rw [hr, List.length_append, List.length_map]
      have h2 := ih m' c (by omega) h8 (by omega)
      have e : m' + 1 - 1 = m' := by omega
      rw [e, h2]
      congr 1
      split
      · rfl
      · next hc =>
        rw [List.length_map, ih (m' + 1 + 1) (c - 1) (by omega) (by omega) (by omega), if_neg (by omega)]

theorem treesN_length (n : Nat) (h : n ≤ 8) : (treesN n).length = listsN 1 n := by
  unfold treesN
  rw [List.length_map, enumF_length _ _ _ (by omega) h (by omega)]
  rfl

theorem enumF_fuel (k : Nat) : ∀ (j m c : Nat), 2 * c + m ≤ k → 2 * c + m ≤ j → enumF k m c = enumF j m c := by
  induction k with
  | zero =>
    intro j m c h1 h2
    obtain ⟨rfl, rfl⟩ : m = 0 ∧ c = 0 := by omega
    cases j <;> rfl
  | succ k ih =>
    intro j m c h1 h2
    cases j with
    | zero =>
      obtain ⟨rfl, rfl⟩ : m = 0 ∧ c = 0 := by omega
      rfl
    | succ j =>
      rw [enumF, enumF]
      split
      · rfl
      · rw [ih j (m - 1) c (by omega) (by omega)]
        split
        · rfl
        · rw [ih j (m + 1) (c - 1) (by omega) (by omega)]

/-- All lists of m trees with c carets together, in order. -/
def enum (m c : Nat) : List (List Tr) := enumF (2 * c + m) m c
theorem enum_rec {m c : Nat} (h : 1 ≤ m) : enum m c = (if c = 0 then [] else (enum (m + 1) (c - 1)).map mkNd) ++ (enum (m - 1) c).map (.lf :: ·) := by
  unfold enum
  obtain ⟨k, hk⟩ : ∃ k, 2 * c + m = k + 1 := ⟨2 * c + m - 1, by omega⟩
  rw [hk, enumF, if_neg (by omega), enumF_fuel k (2 * c + (m - 1)) (m - 1) c (by omega) (by omega)]
  split
  · rfl
  · rw [enumF_fuel k (2 * (c - 1) + (m + 1)) (m + 1) (c - 1) (by omega) (by omega)]
theorem mem_enum {m c : Nat} {ts : List Tr} : ts ∈ enum m c ↔ ts.length = m ∧ (ts.map Tr.carets).sum = c := mem_enumF _ _ _ _ (Nat.le_refl _)
theorem enum_length {m c : Nat} (h8 : c ≤ 8) (h : 2 * c + m ≤ 18) (hm : 1 ≤ m) : (enum m c).length = listsN m c := by
  unfold enum
  rw [enumF_length _ _ _ (Nat.le_refl _) h8 h, if_neg (by omega)]
theorem enum_zero : enum 0 0 = [[]] := rfl

/-! The walk by ranks: where a list of trees is. -/

/-- How many lists have a caret first. -/
def frontN (m c : Nat) : Nat := if c = 0 then 0 else listsN (m + 1) (c - 1)

theorem front_length {m c : Nat} (h8 : c ≤ 8) (h : 2 * c + m ≤ 18) : (if c = 0 then [] else (enum (m + 1) (c - 1)).map mkNd).length = frontN m c := by
  unfold frontN
  split
  · rfl
  · rw [List.length_map, enum_length (by omega) (by omega) (by omega)]

/-- The first tree of the list with rank r, and where the rest is: trees, carets, rank. -/
def nextF : Nat → Nat → Nat → Nat → Tr × Nat × Nat × Nat
  | 0, m, c, r => (.lf, m, c, r)
  | k + 1, m, c, r =>
    if frontN m c ≤ r then (.lf, m - 1, c, r - frontN m c)
    else (.nd (nextF k (m + 1) (c - 1) r).1 (nextF k (nextF k (m + 1) (c - 1) r).2.1 (nextF k (m + 1) (c - 1) r).2.2.1 (nextF k (m + 1) (c - 1) r).2.2.2).1,
      (nextF k (nextF k (m + 1) (c - 1) r).2.1 (nextF k (m + 1) (c - 1) r).2.2.1 (nextF k (m + 1) (c - 1) r).2.2.2).2)

theorem nextF_get (k : Nat) : ∀ (m c r : Nat) (us : List Tr), 2 * c + m ≤ k → 1 ≤ m → c ≤ 8 → 2 * c + m ≤ 18 → (enum m c)[r]? = some us →
    ∃ ts, us = (nextF k m c r).1 :: ts ∧ (nextF k m c r).2.1 + 1 = m ∧ (nextF k m c r).2.2.1 + (nextF k m c r).1.carets = c ∧ (enum (m - 1) (nextF k m c r).2.2.1)[(nextF k m c r).2.2.2]? = some ts := by
  induction k with
  | zero => intro m c r us h h1; omega
  | succ k ih =>
    intro m c r us hk hm h8 h18 hget
    have hl := front_length (m := m) h8 h18
    rw [enum_rec hm] at hget
    rw [nextF]
    by_cases hf : frontN m c ≤ r
    · rw [if_pos hf]
      rw [List.getElem?_append_right (by omega), hl, List.getElem?_map] at hget
      cases h0 : (enum (m - 1) c)[r - frontN m c]? with
      | none => rw [h0] at hget; simp at hget
      | some ts =>
        rw [h0] at hget
        simp at hget
        exact ⟨ts, hget.symm, by show m - 1 + 1 = m; omega, by simp [Tr.carets], rfl⟩
    · rw [if_neg hf]
      rw [List.getElem?_append_left (by omega)] at hget
      have hc : ¬ c = 0 := by intro h; rw [if_pos h] at hget; simp at hget
      rw [if_neg hc, List.getElem?_map] at hget
      cases h0 : (enum (m + 1) (c - 1))[r]? with
      | none => rw [h0] at hget; simp at hget
      | some vs =>
        rw [h0] at hget
        simp at hget
        obtain ⟨ts1, e1, s1, s2, s3⟩ := ih (m + 1) (c - 1) r vs (by omega) (by omega) (by omega) (by omega) h0
        have hm1 : (nextF k (m + 1) (c - 1) r).2.1 = m := by omega
        obtain ⟨ts2, e2, q1, q2, q3⟩ := ih m (nextF k (m + 1) (c - 1) r).2.2.1 (nextF k (m + 1) (c - 1) r).2.2.2 ts1 (by omega) hm (by omega) (by omega) s3
        rw [hm1]
        refine ⟨ts2, ?_, q1, ?_, q3⟩
        · rw [← hget, e1, e2]; rfl
        · simp only [Tr.carets]; omega

/-- The tree with n carets and the rank r. -/
def treeAt (n r : Nat) : Tr := (nextF (2 * n + 1) 1 n r).1
theorem treesN_get (n r : Nat) (hn : n ≤ 8) (hr : r < listsN 1 n) : (treesN n)[r]? = some (treeAt n r) := by
  have hlen := enum_length (m := 1) hn (by omega) (Nat.le_refl _)
  have hx : r < (enum 1 n).length := by omega
  obtain ⟨ts, e, _, _, _⟩ := nextF_get (2 * n + 1) 1 n r _ (by omega) (Nat.le_refl _) hn (by omega) (List.getElem?_eq_getElem hx)
  unfold treesN
  show ((enum 1 n).map _)[r]? = _
  rw [List.getElem?_map, List.getElem?_eq_getElem hx, e]
  rfl
theorem treesN_eq (n : Nat) (hn : n ≤ 8) : treesN n = (List.range (listsN 1 n)).map (treeAt n) := by
  apply List.ext_getElem?
  intro r
  by_cases hr : r < listsN 1 n
  · rw [treesN_get n r hn hr, List.getElem?_map, List.getElem?_range hr]
    rfl
  · rw [List.getElem?_eq_none (by rw [treesN_length n hn]; omega), List.getElem?_eq_none (by simp; omega)]

/-- Where a walk along a tree ends: trees, carets, rank. -/
def rkT : Tr → Nat × Nat × Nat → Nat × Nat × Nat
  | .lf, s => (s.1 - 1, s.2.1, s.2.2 + frontN s.1 s.2.1)
  | .nd l r, s => rkT r (rkT l (s.1 + 1, s.2.1 - 1, s.2.2))

theorem rkT_get (t : Tr) : ∀ (m c r i : Nat) (ts : List Tr), 1 ≤ m → c ≤ 8 → 2 * c + m ≤ 18 → t.carets ≤ c → (enum (m - 1) (c - t.carets))[i]? = some ts →
    ∃ d, rkT t (m, c, r) = (m - 1, c - t.carets, r + d) ∧ (enum m c)[d + i]? = some (t :: ts) := by
  induction t with
  | lf =>
    intro m c r i ts hm h8 h18 ht hget
    refine ⟨frontN m c, rfl, ?_⟩
    have hl := front_length (m := m) h8 h18
    rw [enum_rec hm, List.getElem?_append_right (by omega), hl, Nat.add_sub_cancel_left, List.getElem?_map]
    have : (enum (m - 1) c)[i]? = some ts := hget
    rw [this]; rfl
  | nd l r ihl ihr =>
    intro m c x i ts hm h8 h18 ht hget
    simp only [Tr.carets] at ht hget ⊢
    have e1 : c - 1 - l.carets - r.carets = c - (l.carets + r.carets + 1) := by omega
    have h2 := fun x => ihr m (c - 1 - l.carets) x i ts hm (by omega) (by omega) (by omega) (by rw [e1]; exact hget)
    obtain ⟨d0, _, g0⟩ := h2 0
    obtain ⟨d1, f1, g1⟩ := ihl (m + 1) (c - 1) x (d0 + i) (r :: ts) (by omega) (by omega) (by omega) (by omega) (by rw [Nat.add_sub_cancel]; exact g0)
    obtain ⟨d2, f2, g2⟩ := h2 (x + d1)
    have hd : d2 + i = d0 + i := by
      have hn : (enum m (c - 1 - l.carets)).Nodup := by
        refine (enumF_sorted _ m (c - 1 - l.carets) (Nat.le_refl _)).imp ?_
        intro a b h e
        subst e
        have : ∀ a : List Tr, ltL a a = false := by
          intro a; induction a with
          | nil => rfl
          | cons t ts ih => simp [ltL, lt_irrefl, ih]
        rw [this] at h; simp at h
      have hx := List.getElem?_eq_some_iff.1 g2
      have hy := List.getElem?_eq_some_iff.1 g0
      exact (List.getElem_inj hn).1 (hx.2.trans hy.2.symm)
    refine ⟨d1 + d2, ?_, ?_⟩
    · rw [rkT]
      show rkT r (rkT l (m + 1, c - 1, x)) = _
      rw [f1, Nat.add_sub_cancel, f2, e1, Nat.add_assoc x d1 d2]
    · have hl := front_length (m := m) h8 h18
      have hlt := (List.getElem?_eq_some_iff.1 g1).1
      rw [enum_length (by omega) (by omega) (by omega)] at hlt
      have hfr : frontN m c = listsN (m + 1) (c - 1) := by unfold frontN; rw [if_neg (by omega)]
      rw [enum_rec hm, List.getElem?_append_left (by rw [hl]; omega), if_neg (by omega), List.getElem?_map]
      have e2 : d1 + d2 + i = d1 + (d0 + i) := by omega
      rw [e2, g1]; rfl

/-- The rank of a tree. -/
def rankT (t : Tr) : Nat := (rkT t (1, t.carets, 0)).2.2
theorem rankT_get (t : Tr) (h : t.carets ≤ 8) : (treesN t.carets)[rankT t]? = some t := by
  obtain ⟨d, f, g⟩ := rkT_get t 1 t.carets 0 0 [] (Nat.le_refl _) h (by omega) (Nat.le_refl _) (by rw [Nat.sub_self, Nat.sub_self, enum_zero]; rfl)
  have : rankT t = d := by unfold rankT; rw [f]; simp
  rw [this]
  unfold treesN
  show ((enum 1 t.carets).map _)[d]? = _
  rw [List.getElem?_map]
  have g' : (enum 1 t.carets)[d]? = some [t] := g
  rw [g']; rfl

/-- In a sorted list as many are less than one as are in front of it. -/
theorem countP_sorted {l : List Tr} (h : l.Pairwise (fun a b => a.lt b = true)) {i : Nat} {t : Tr} (hi : l[i]? = some t) : l.countP (fun u => u.lt t) = i := by
  induction l generalizing i with
  | nil => simp at hi
  | cons a l ih =>
    rw [List.pairwise_cons] at h
    cases i with
    | zero =>
      simp at hi
      subst hi
      rw [List.countP_cons_of_neg (by rw [lt_irrefl]; simp)]
      rw [List.countP_eq_zero]
      intro b hb hba
      have := h.1 b hb
      have asym : ∀ x y : Tr, x.lt y = true → y.lt x = true → False := by
        intro x
        induction x with
        | lf => intro y h; simp [Tr.lt] at h
        | nd l r ihl ihr =>
          intro y h1 h2
          cases y with
          | lf => simp [Tr.lt] at h2
          | nd p q =>
            simp [Tr.lt, eqB_iff] at h1 h2
            rcases h1 with h1 | ⟨rfl, h1⟩
            · rcases h2 with h2 | ⟨rfl, h2⟩
              · exact ihl _ h1 h2
              · rw [lt_irrefl] at h1; simp at h1
            · rcases h2 with h2 | ⟨_, h2⟩
              · rw [lt_irrefl] at h2; simp at h2
              · exact ihr _ h1 h2
      exact asym _ _ this hba
    | succ i =>
      have hi' : l[i]? = some t := by simpa using hi
      have hm : t ∈ l := List.mem_of_getElem? hi'
      have := ih h.2 hi'
      rw [List.countP_cons_of_pos (by exact h.1 t hm), this]

theorem lt_total (t : Tr) : ∀ u : Tr, t.lt u = true ∨ t = u ∨ u.lt t = true := by
  induction t with
  | lf => intro u; cases u with
    | lf => exact .inr (.inl rfl)
    | nd p q => exact .inr (.inr rfl)
  | nd l r ihl ihr =>
    intro u
    cases u with
    | lf => exact .inl rfl
    | nd p q =>
      simp only [Tr.lt, Bool.or_eq_true, Bool.and_eq_true, eqB_iff]
      rcases ihl p with h | rfl | h
      · exact .inl (.inl h)
      · rcases ihr q with h | rfl | h
        · exact .inl (.inr ⟨rfl, h⟩)
        · exact .inr (.inl rfl)
        · exact .inr (.inr (.inr ⟨rfl, h⟩))
      · exact .inr (.inr (.inl h))

/-! The spec's list, before it is sorted. -/
/-- All trees with n + 1 carets, by the carets of the left side. -/
def rawT (n : Nat) : List Tr := (List.range (n + 1)).flatMap fun i => (treesN i).flatMap fun l => (treesN (n - i)).map fun r => .nd l r

theorem mem_rawT (n : Nat) (t : Tr) : t ∈ rawT n ↔ t.carets = n + 1 := by
  unfold rawT
  simp only [List.mem_flatMap, List.mem_range, List.mem_map, mem_treesN]
  constructor
  · rintro ⟨i, hi, l, rfl, r, hr, rfl⟩
    simp [Tr.carets]; omega
  · intro h
    cases t with
    | lf => simp [Tr.carets] at h
    | nd l r =>
      simp [Tr.carets] at h
      exact ⟨l.carets, by omega, l, rfl, r, by omega, rfl⟩

theorem nodup_flatMap {α β : Type} {l : List α} {f : α → List β} (h1 : ∀ x ∈ l, (f x).Nodup) (h2 : l.Pairwise (fun x y => ∀ b, b ∈ f x → b ∈ f y → False)) : (l.flatMap f).Nodup := by
  induction l with
  | nil => simp
  | cons a l ih =>
    rw [List.pairwise_cons] at h2
    rw [List.flatMap_cons, List.nodup_append]
    refine ⟨h1 a (by simp), ih (fun x hx => h1 x (by simp [hx])) h2.2, ?_⟩
    intro b hb c hc e
    subst e
    rw [List.mem_flatMap] at hc
    obtain ⟨y, hy, hby⟩ := hc
    exact h2.1 y hy b hb hby

theorem rawT_nodup (n : Nat) : (rawT n).Nodup := by
  unfold rawT
  refine nodup_flatMap ?_ ?_
  · intro i _
    refine nodup_flatMap ?_ ?_
    · intro l _
      rw [List.nodup_iff_pairwise_ne, List.pairwise_map]
      refine (treesN_nodup _).imp ?_
      intro a b hne e
      injection e with e1 e2
      exact hne e2
    · refine (treesN_nodup i).imp ?_
      intro l l' hne b h1 h2
      simp only [List.mem_map] at h1 h2
      obtain ⟨r, _, rfl⟩ := h1
      obtain ⟨r', _, e⟩ := h2
      injection e with e1 e2
      exact hne e1.symm
  · refine List.nodup_range.imp ?_
    intro i j hne b h1 h2
    simp only [List.mem_flatMap, List.mem_map, mem_treesN] at h1 h2
    obtain ⟨l, hl, r, _, rfl⟩ := h1
    obtain ⟨l', hl', r', _, e⟩ := h2
    injection e with e1 e2
    subst e1
    exact hne (hl.symm.trans hl')

/-- Whatever is sorted and holds the same trees is the list in order. -/
theorem sorted_eq {n : Nat} {l : List Tr} (hs : l.Pairwise (fun a b => a.lt b = true)) (hp : List.Perm l (rawT n)) : l = treesN (n + 1) := by
  have h1 : List.Perm l (treesN (n + 1)) := by
    refine hp.trans ((List.perm_ext_iff_of_nodup (rawT_nodup n) (treesN_nodup _)).2 ?_)
    intro t
    rw [mem_rawT, mem_treesN]
  refine List.Perm.eq_of_pairwise ?_ hs (treesN_sorted _) h1
  intro a b _ _ hab hba
  exfalso
  have := countP_sorted (l := [a, b]) (i := 1) (t := b) (by simpa using hab) rfl
  have h2 := countP_sorted (l := [b, a]) (i := 1) (t := a) (by simpa using hba) rfl
  have h3 := countP_sorted (l := [a, b]) (i := 0) (t := a) (by simpa using hab) rfl
  simp [lt_irrefl, hba] at h3
end Go.Proofs.Ytkpganpojdboeaa

/-! SmP -/
namespace Go.Proofs.Ytkpganpojdboeaa

def pTx (p : Pr) : ByteArray := p.1.str ++ ⟨#[62]⟩ ++ p.2.str
/-- The reduced pairs with k carets whose first tree is a. -/
def redsOf (k : Nat) (a : Tr) : List Pr := ((treesN k).filter fun b => (both (a, b)).isEmpty).map fun b => (a, b)
def redsN (k : Nat) : List Pr := (treesN k).flatMap (redsOf k)
/-- The reduced pairs with fewer than n carets. -/
def smallN (n : Nat) : List Pr := (List.range n).flatMap redsN
theorem smallN_succ (n : Nat) : smallN (n + 1) = smallN n ++ redsN n := by simp [smallN, List.range_succ]
theorem mem_redsN {k : Nat} {p : Pr} : p ∈ redsN k ↔ p.1.carets = k ∧ p.2.carets = k ∧ both p = [] := by
  simp only [redsN, redsOf, List.mem_flatMap, List.mem_map, List.mem_filter, mem_treesN, List.isEmpty_iff]
  constructor
  · rintro ⟨a, ha, b, ⟨hb, h⟩, rfl⟩; exact ⟨ha, hb, h⟩
  · rintro ⟨ha, hb, h⟩; exact ⟨p.1, ha, p.2, ⟨hb, h⟩, rfl⟩
theorem mem_smallN {n : Nat} {p : Pr} : p ∈ smallN n ↔ p.1.carets < n ∧ okP p ∧ both p = [] := by
  simp only [smallN, List.mem_flatMap, List.mem_range, mem_redsN, okP]
  constructor
  · rintro ⟨k, hk, h1, h2, h3⟩; exact ⟨by omega, by omega, h3⟩
  · rintro ⟨h1, h2, h3⟩; exact ⟨p.1.carets, h1, rfl, by omega, h3⟩
/-- The order of the texts of pairs. -/
def ltP2 (p q : Pr) : Bool := p.1.lt q.1 || (p.1.eqB q.1 && p.2.lt q.2)
theorem pTx_list (p : Pr) : (pTx p).data.toList = p.1.text ++ 62 :: p.2.text := by
  simp [pTx, Tr.str]
theorem pTx_less (p q : Pr) : Go.Op.bytesLess (pTx p).data.toList (pTx q).data.toList = ltP2 p q := by
  rw [pTx_list, pTx_list, bytesLess_text]
  unfold ltP2
  congr 2
  have h := bytesLess_text p.2 q.2 [] []
  simp only [List.append_nil, Go.Op.bytesLess, Bool.and_false, Bool.or_false] at h
  rw [Go.Op.bytesLess]
  simp [h]
theorem redsN_inc (k : Nat) : (redsN k).Pairwise fun p q => ltP2 p q = true := by
  unfold redsN
  rw [List.pairwise_flatMap]
  refine ⟨fun a _ => ?_, ?_⟩
  · unfold redsOf
    rw [List.pairwise_map]
    refine List.Pairwise.imp (fun {b c} h => ?_) (List.Pairwise.filter _ (treesN_sorted k))
    simp [ltP2, eqB_self, h]
  · refine List.Pairwise.imp (fun {a b} h x hx y hy => ?_) (treesN_sorted k)
    simp only [redsOf, List.mem_map] at hx hy
    obtain ⟨_, _, rfl⟩ := hx
    obtain ⟨_, _, rfl⟩ := hy
    simp [ltP2, h]
end Go.Proofs.Ytkpganpojdboeaa

/-! IsPair -/
namespace Go.Proofs.Ytkpganpojdboeaa
open Go.RowKit

theorem isTree_yes' (t : Tr) (w : World) (h : t.carets ≤ 8) : Calls Try.prog 82 #[.string t.str] w (Gives (.bool true) w) := (implIsTree_yes t w h).mono fun _ _ ⟨h1, h2⟩ => ⟨h2, h1⟩
theorem isTree_no' (s : ByteArray) (w : World) (hs : s.size ≤ 9223372036854775806) (h : treeOf s = none) : Calls Try.prog 82 #[.string s] w (Gives (.bool false) w) := (implIsTree_no s w hs h).mono fun _ _ ⟨h1, h2⟩ => ⟨h2, h1⟩

set_option maxRecDepth 100000 in
set_option maxHeartbeats 2000000 in
theorem isPair_any (a b : ByteArray) (w : World) (ha : a.size ≤ 9223372036854775806) (hb : b.size ≤ 9223372036854775806) :
    Calls Try.prog 46 #[.agg #[.string a, .string b]] w (Gives (.bool (pairOf a b).isSome) w) := by
  cases h : treeOf a with
  | none =>
    have e : (pairOf a b).isSome = false := by unfold pairOf; rw [h]; rfl
    rw [e]
    have T := fun w => isTree_no' a w ha h
    clear h e
    go_enter Try.func46, Try.ntmps46
    go_wp2_with fail
    have hb0 : Below w.heap.size w (w.alloc (.cells #[.string a, .string b] 25 (0, 0))) := nxAlloc (Below.refl _ _) _
    have hc := two_cells (heap_alloc_at w (.cells #[.string a, .string b] 25 (0, 0)))
    have hs : w.heap.size < (w.alloc (.cells #[.string a, .string b] 25 (0, 0))).heap.size := by simp
    generalize w.alloc (.cells #[.string a, .string b] 25 (0, 0)) = w0 at *
    refine wp_region_cls (by kernel_rfl) (by kernel_rfl) ?_
    repeat (
      refine wpQuiet_step (fun K hK => ?_)
      go_simp
      first
        | (refine hK _ ?_; clear hK K)
        | (refine ⟨_, fun _ _ => rfl, hK _ ?_⟩; clear hK K)
        | (apply Exists.intro
           refine ⟨fun w' hw' => ?_, hK _ ?_⟩
           · first
               | (rw [hw'.cell hs hc.1]; exact ⟨rfl, rfl⟩)
               | (rw [hw'.cell hs hc.2]; exact ⟨rfl, rfl⟩)
               | (go_at_call 82; exact hw'.call (T _))
           clear hK K))
    refine wpQuiet_nil ?_
    intro w' hw'
    go_wp2_with fail
    go_ret
    exact ⟨rfl, nx hb0 hw'⟩
  | some t =>
    cases k : treeOf b with
    | none =>
      have e : (pairOf a b).isSome = false := by unfold pairOf; rw [h, k]; rfl
      rw [e]
      obtain ⟨rfl, hc⟩ := treeOf_some h
      have T := fun w => isTree_yes' t w hc
      have U := fun w => isTree_no' b w hb k
      clear h k e hc
      go_enter Try.func46, Try.ntmps46
      go_wp2_with fail
      have hb0 : Below w.heap.size w (w.alloc (.cells #[.string t.str, .string b] 25 (0, 0))) := nxAlloc (Below.refl _ _) _
      have hc := two_cells (heap_alloc_at w (.cells #[.string t.str, .string b] 25 (0, 0)))
      have hs : w.heap.size < (w.alloc (.cells #[.string t.str, .string b] 25 (0, 0))).heap.size := by simp
      generalize w.alloc (.cells #[.string t.str, .string b] 25 (0, 0)) = w0 at *
      refine wp_region_cls (by kernel_rfl) (by kernel_rfl) ?_
      repeat (
        refine wpQuiet_step (fun K hK => ?_)
        go_simp
        first
          | (refine hK _ ?_; clear hK K)
          | (refine ⟨_, fun _ _ => rfl, hK _ ?_⟩; clear hK K)
          | (apply Exists.intro
             refine ⟨fun w' hw' => ?_, hK _ ?_⟩
             · first
                 | (rw [hw'.cell hs hc.1]; exact ⟨rfl, rfl⟩)
                 | (rw [hw'.cell hs hc.2]; exact ⟨rfl, rfl⟩)
                 | (go_at_call 82; first | (with_reducible exact hw'.call (T _)) | (with_reducible exact hw'.call (U _)))
             clear hK K))
      refine wpQuiet_nil ?_
      intro w' hw'
      go_wp2_with fail
      go_ret
      exact ⟨rfl, nx hb0 hw'⟩
    | some u =>
      rw [pairOf_isSome a b t u h k]
      obtain ⟨rfl, hc⟩ := treeOf_some h
      obtain ⟨rfl, hd⟩ := treeOf_some k
      have T := fun w => isTree_yes' t w hc
      have U := fun w => isTree_yes' u w hd
      have C := fun w => countCarets_any t w (by omega)
      have D := fun w => countCarets_any u w (by omega)
      clear h k hc hd
      go_enter Try.func46, Try.ntmps46
      go_wp2_with fail
      have hb0 : Below w.heap.size w (w.alloc (.cells #[.string t.str, .string u.str] 25 (0, 0))) := nxAlloc (Below.refl _ _) _
      have hc := two_cells (heap_alloc_at w (.cells #[.string t.str, .string u.str] 25 (0, 0)))
      have hs : w.heap.size < (w.alloc (.cells #[.string t.str, .string u.str] 25 (0, 0))).heap.size := by simp
      generalize w.alloc (.cells #[.string t.str, .string u.str] 25 (0, 0)) = w0 at *
      refine wp_region_cls (by kernel_rfl) (by kernel_rfl) ?_
      repeat (
        refine wpQuiet_step (fun K hK => ?_)
        go_simp
        first
          | (refine hK _ ?_; clear hK K)
          | (refine ⟨_, fun _ _ => rfl, hK _ ?_⟩; clear hK K)
          | (apply Exists.intro
             refine ⟨fun w' hw' => ?_, hK _ ?_⟩
             · first
                 | (rw [hw'.cell hs hc.1]; exact ⟨rfl, rfl⟩)
                 | (rw [hw'.cell hs hc.2]; exact ⟨rfl, rfl⟩)
                 | (go_at_call 82; first | (with_reducible exact hw'.call (T _)) | (with_reducible exact hw'.call (U _)))
                 | (go_at_call 83; first | (with_reducible exact hw'.call (C _)) | (with_reducible exact hw'.call (D _)))
             clear hK K))
      refine wpQuiet_nil ?_
      intro w' hw'
      go_wp2_with fail
      go_ret
      exact ⟨rfl, nx hb0 hw'⟩
end Go.Proofs.Ytkpganpojdboeaa

/-! ParseI -/
namespace Go.Proofs.Ytkpganpojdboeaa
open Go.RowKit

/-- The index of the first byte c from an index on. -/
def idxB (s : ByteArray) (c : UInt8) : Int := Lib.indexByte s.data.toList c

set_option maxRecDepth 100000 in
set_option maxHeartbeats 1000000 in
theorem indexByteS_any (s : ByteArray) (c : UInt8) (w : World) :
    Calls Try.prog 157 #[.string s, .int .u8 c.toNat] w fun e w' => e = .returned (.int .i64 (idxB s c)) ∧ w = w' := by
  go_enter Try.func157, Try.ntmps157
  go_wp2
  rw [run_callFunc_extern Try.func161 (by kernel_rfl) (by kernel_rfl) (by kernel_rfl) (e := Extern.BytealgIndexByte.indexByte) (by kernel_rfl), Lib.run_indexByteString]
  simp only [Result.andThen]
  rw [Oper.upon_value]
  go_wp2
  go_ret
  refine ⟨ret_int ?_, rfl⟩
  unfold idxB
  simp

set_option maxRecDepth 100000 in
set_option maxHeartbeats 1000000 in
theorem index62_any (s : ByteArray) (w : World) :
    Calls Try.prog 153 #[.string s, .string ⟨#[62]⟩] w fun e w' => e = .returned (.int .i64 (idxB s 62)) ∧ w = w' := by
  have hI := fun w => indexByteS_any s 62 w
  have gz : ((⟨#[62]⟩ : ByteArray)[0]'(by decide)).toNat = 62 := rfl
  have ez : ((62 : UInt8).toNat : Int) = 62 := rfl
  rw [ez] at hI
  cases hq : ([62] == s.toList) with
  | true =>
    have h0 : idxB s 62 = 0 := by
      unfold idxB
      rw [← Lib.toList_data, ← (beq_iff_eq.1 hq)]
      rfl
    rw [h0]
    clear hI h0 ez
    go_enter Try.func153, Try.ntmps153
    go_wp2_with fail
    go_ret
    exact ⟨rfl, rfl⟩
  | false =>
    generalize idxB s 62 = z at *
    clear ez
    go_enter Try.func153, Try.ntmps153
    go_wp2_with fail
    refine (hI _).mono ?_; rintro e w1 ⟨rfl, rfl⟩
    go_wp2_with fail
    go_ret
    exact ⟨rfl, rfl⟩

theorem idx_spec (l : List UInt8) (c : UInt8) : (Lib.indexByte l c = -1 ∧ ∀ j : Nat, l[j]? ≠ some c) ∨ ∃ k : Nat, Lib.indexByte l c = k ∧ k < l.length ∧ l[k]? = some c ∧ ∀ j, j < k → l[j]? ≠ some c := by
  induction l with
  | nil => exact .inl ⟨rfl, fun j => by simp⟩
  | cons a l ih =>
    unfold Lib.indexByte
    by_cases h : (a == c) = true
    · rw [if_pos h]
      have : a = c := by simpa using h
      exact .inr ⟨0, rfl, by simp, by simp [this], fun j hj => by omega⟩
    · rw [if_neg h]
      have hne : a ≠ c := by simpa using h
      rcases ih with ⟨h1, h2⟩ | ⟨k, h1, h2, h3, h4⟩
      · left
        refine ⟨by rw [h1]; rfl, fun j => ?_⟩
        cases j with
        | zero => simpa using hne
        | succ j => simpa using h2 j
      · right
        refine ⟨k + 1, ?_, by simp; omega, by simpa using h3, fun j hj => ?_⟩
        · rw [h1]
          have : (((k : Nat) : Int) == -1) = false := by rw [beq_eq_false_iff_ne]; omega
          rw [this]
          simp
        · cases j with
          | zero => simpa using hne
          | succ j => simpa using h4 j (by omega)
theorem idxB_spec (s : ByteArray) (c : UInt8) : (idxB s c = -1 ∧ ∀ j : Nat, s.data.toList[j]? ≠ some c) ∨ ∃ k : Nat, idxB s c = k ∧ k < s.size ∧ s.data.toList[k]? = some c ∧ ∀ j, j < k → s.data.toList[j]? ≠ some c := by
  have := idx_spec s.data.toList c
  rw [← Lib.size_eq] at this
  exact this

def CutV (s : ByteArray) : Value := if 0 ≤ idxB s 62 then .tuple #[.string (s.extract 0 (idxB s 62).toNat), .string (s.extract ((idxB s 62).toNat + 1) s.size), .bool true] else .tuple #[.string s, .string ⟨#[]⟩, .bool false]

/-- The pieces of a text between the bytes 62, from an index on (fuel: what is left). -/
def pcs (s : ByteArray) : Nat → Nat → Nat → List ByteArray
  | 0, a, _ => [s.extract a s.size]
  | k + 1, a, i => if s.data.toList[i]? = some 62 then s.extract a i :: pcs s k (i + 1) (i + 1) else pcs s k a (i + 1)

theorem oneS1 (m : ByteArray) : ∀ u ∈ [Value.string m], u.oneCell' = true := by intro u hu; simp at hu; subst hu; rfl
theorem OwnS.snoc {base : Nat} {w : World} {v : Value} {xs : List ByteArray} {m : ByteArray} (h : w.ownsRow base 9 1 v (xs.length + 1) (xs.map Value.string ++ [Value.string m])) : OwnS base w v (xs ++ [m]) := by
  unfold OwnS; rw [List.length_append, List.map_append]; exact h

set_option maxRecDepth 100000 in
set_option maxHeartbeats 2000000 in
theorem split_any (s : ByteArray) (w : World) (hs : s.size ≤ 2000000) :
    Calls Try.prog 125 #[.string s, .int .u8 62] w fun e w' => ∃ v, OwnS w.heap.size w' v (pcs s s.size 0 0) ∧ Below w.heap.size w w' ∧ e = .returned v := by
  obtain ⟨i0, hi, hz0, hz1, hz2⟩ := info_parts info_str
  go_enter Try.func125, Try.ntmps125
  go_wp2_with fail
  go_loopw [5, 6, 7] (fun v f i wr => ∃ (a k : Nat) (xs : List ByteArray), f = .int .i64 a ∧ i = .int .i64 k ∧ a ≤ k ∧ k ≤ s.size ∧ xs.length ≤ k ∧ OwnS w.heap.size wr v xs ∧ Below w.heap.size w wr ∧ Hid (pcs s s.size 0 0 = xs ++ pcs s (s.size - k) a k)) (fun _ _ i _ => s.size - (intOf i).toNat)
  case atStart => exact ⟨0, 0, [], rfl, rfl, Nat.le_refl _, Nat.zero_le _, Nat.le_refl _, OwnS.nil _ _, Below.refl _ _, by show _ = _; rfl⟩
  case round =>
    obtain ⟨a, k, xs, rfl, rfl, hak, hk, hxl, hown, hbw, he⟩ := hrel
    by_cases hlt : k < s.size
    · have hlt' : (k : Int) < (s.size : Int) := by omega
      have hsk : s.data.toList[k]? = some (s[k]'hlt) := by
        have hl : k < s.data.toList.length := by rw [← Lib.size_eq]; exact hlt
        rw [List.getElem?_eq_getElem hl]; rfl
      have hu : (s[k]'hlt = 62) ↔ (((s[k]'hlt).toNat : Int) == 62) = true := by
        rw [beq_iff_eq]
        exact ⟨fun e => by rw [e]; rfl, fun e => u8_eq (n := 62) (by omega) e⟩
      have hf : s.size - k = (s.size - (k + 1)) + 1 := by omega
      have he0 := he.out
      rw [hf, pcs, hsk] at he0
      cases hb : (((s[k]'hlt).toNat : Int) == 62) with
      | true =>
        rw [if_pos (by rw [hu.2 hb])] at he0
        have he' : pcs s s.size 0 0 = (xs ++ [s.extract a k]) ++ pcs s (s.size - (k + 1)) (k + 1) (k + 1) := by rw [he0]; simp
        have HE := Lib.hid he'
        have hA : (a : Int) ≤ (k : Int) := by omega
        clear he0 he' hu hsk hf he
        go_wp2_with (at_builtin; refine wpList_append_own _ rfl _ _ 99 rfl w.heap.size 9 i0 (.string ⟨#[]⟩) 1 16 Try.underlying99 hi hz0 hz1 hz2 rfl (by decide) _ _ _ rfl (hown.alloc _) ⟨wr.heap.size, 0, none⟩ 1 1 [.string (s.extract a k)] rfl rfl (new1 _ _ _) (oneS1 _) (by unfold maxLen; omega) (by omega) (size_al hbw _) ?_; intro v' w1 hown' hgrow hnn)
        have hbw' := below_app hbw hown (Nat.le_refl _) hgrow
        have hown1 := OwnS.snoc hown'
        clear hown hown' hgrow hbw hnn
        go_wp2_with fail
        go_roundw
        case rel => exact ⟨k + 1, k + 1, xs ++ [s.extract a k], by go_num, by go_num, Nat.le_refl _, by omega, by simp; omega, hown1, hbw', HE⟩
        case measure => simp [intOf]; omega
      | false =>
        rw [if_neg (by intro e; rw [hu.1 (by injection e)] at hb; cases hb)] at he0
        have HE := Lib.hid he0
        clear he0 hu hsk hf he
        go_wp2_with fail
        go_roundw
        case rel => exact ⟨a, k + 1, xs, rfl, by go_num, by omega, by omega, by omega, hown, hbw, HE⟩
        case measure => simp [intOf]; omega
    · obtain rfl : k = s.size := by omega
      have he0 := he.out
      rw [Nat.sub_self, pcs] at he0
      have HE := Lib.hid he0
      have hA : (a : Int) ≤ (s.size : Int) := by omega
      clear he0 he
      go_wp2_with (at_builtin; refine wpList_append_own _ rfl _ _ 99 rfl w.heap.size 9 i0 (.string ⟨#[]⟩) 1 16 Try.underlying99 hi hz0 hz1 hz2 rfl (by decide) _ _ _ rfl (hown.alloc _) ⟨wr.heap.size, 0, none⟩ 1 1 [.string (s.extract a s.size)] rfl rfl (new1 _ _ _) (oneS1 _) (by unfold maxLen; omega) (by omega) (size_al hbw _) ?_; intro v' w1 hown' hgrow hnn)
      have hbw' := below_app hbw hown (Nat.le_refl _) hgrow
      have hown1 := OwnS.snoc hown'
      clear hown hown' hgrow hbw hnn
      go_wp2_with fail
      go_ret
      exact ⟨_, by rw [HE.out]; exact hown1, hbw', rfl⟩
end Go.Proofs.Ytkpganpojdboeaa

/-! TrList -/
namespace Go.Proofs.Ytkpganpojdboeaa
open Go.RowKit

def trTexts (n : Nat) : List ByteArray := (treesN n).map Tr.str
theorem trTexts_pos (n : Nat) (h : n ≤ 8) : 0 < (trTexts n).length := by
  obtain ⟨t, ht⟩ : ∃ t : Tr, t.carets = n := ⟨treeAt n 0, by
    have hp : 0 < listsN 1 n := by
      have : ∀ n, n ≤ 8 → 0 < listsN 1 n := by decide
      exact this n h
    have := treesN_get n 0 h hp
    exact (mem_treesN n _).1 (List.mem_of_getElem? this)⟩
  have := (mem_treesN n t).2 ht
  unfold trTexts
  rw [List.length_map]
  exact List.length_pos_of_mem this

/-- The trees with a left tree l, as they are made. -/
def rowG (l : Tr) (rs : List Tr) : List Tr := rs.map fun r => .nd l r
def rowF (m i : Nat) : List Tr := (treesN i).flatMap fun l => rowG l (treesN (m - i))
theorem rawT_rows (m : Nat) : rawT m = (List.range' 0 (m + 1)).flatMap (rowF m) := by
  rw [← List.range_eq_range']; rfl
theorem rowF_at {m i : Nat} (k : Nat) {t : Tr} (h : (treesN i)[k]? = some t) : ((treesN i).drop k).flatMap (fun l => rowG l (treesN (m - i))) = rowG t (treesN (m - i)) ++ ((treesN i).drop (k + 1)).flatMap fun l => rowG l (treesN (m - i)) := by
  obtain ⟨hk, rfl⟩ := List.getElem?_eq_some_iff.1 h
  rw [List.drop_eq_getElem_cons hk, List.flatMap_cons]

theorem treesN_small (n : Nat) (h : n ≤ 8) : (treesN n).length ≤ 5000 := by
  rw [treesN_length _ h]
  have : ∀ n, n ≤ 8 → listsN 1 n ≤ 5000 := by decide
  exact this _ h
theorem rawT_small : ∀ m, m ≤ 7 → (rawT m).length ≤ 5000 := by
  intro m hm
  have hp : (rawT m).length = (treesN (m + 1)).length := by
    refine List.Perm.length_eq ((List.perm_ext_iff_of_nodup (rawT_nodup m) (treesN_nodup (m + 1))).2 fun t => ?_)
    rw [mem_rawT, mem_treesN]
  rw [hp]
  exact treesN_small _ (by omega)

theorem rawT_length (m : Nat) (hm : m ≤ 7) : (rawT m).length = (treesN (m + 1)).length := by
  refine List.Perm.length_eq ((List.perm_ext_iff_of_nodup (rawT_nodup m) (treesN_nodup (m + 1))).2 fun t => ?_)
  have := hm
  rw [mem_rawT, mem_treesN]
/-- The trees, the first k of them sorted. -/
def SortK (m k : Nat) (L : List Tr) : Prop := L.Perm (rawT m) ∧ (L.take k).Pairwise fun a b => a.lt b = true
theorem sort_done {m N : Nat} {L : List Tr} (hl : L.length = N) (h : SortK m N L) : L = treesN (m + 1) := by
  obtain ⟨h1, h2⟩ := h
  rw [List.take_of_length_le (by omega)] at h2
  exact sorted_eq h2 h1

theorem lt_trans' (a b c : Tr) (h1 : a.lt b = true) (h2 : b.lt c = true) : a.lt c = true := by
  induction a generalizing b c with
  | lf => cases b <;> simp [Tr.lt] at h1
  | nd l r ihl ihr =>
    cases b with
    | lf => cases c <;> simp [Tr.lt] at h2
    | nd l2 r2 =>
      cases c with
      | lf => simp [Tr.lt]
      | nd l3 r3 =>
        simp only [Tr.lt, Bool.or_eq_true, Bool.and_eq_true, eqB_iff] at h1 h2 ⊢
        rcases h1 with h1 | ⟨rfl, h1⟩
        · rcases h2 with h2 | ⟨rfl, h2⟩
          · exact .inl (ihl _ _ h1 h2)
          · exact .inl h1
        · rcases h2 with h2 | ⟨rfl, h2⟩
          · exact .inl h2
          · exact .inr ⟨rfl, ihr _ _ h1 h2⟩

theorem sort_round {m k : Nat} {A1 A2 C : List Tr} {t : Tr} (h : SortK m k (A1 ++ A2 ++ t :: C)) (hk : A1.length + A2.length = k) (h2 : ∀ y ∈ A2, t.lt y = true) (h1 : A1 = [] ∨ ∃ A y, A1 = A ++ [y] ∧ t.lt y = false) :
    SortK m (k + 1) (A1 ++ t :: (A2 ++ C)) := by
  obtain ⟨hp, hs⟩ := h
  have hnd : (A1 ++ A2 ++ t :: C).Nodup := hp.nodup_iff.2 (rawT_nodup m)
  have hp' : (A1 ++ t :: (A2 ++ C)).Perm (A1 ++ A2 ++ t :: C) := by
    rw [List.append_assoc]
    exact List.Perm.append_left A1 List.perm_middle.symm
  refine ⟨hp'.trans hp, ?_⟩
  rw [List.take_append_of_le_length (by simp; omega), List.take_of_length_le (by simp; omega)] at hs
  rw [show A1 ++ t :: (A2 ++ C) = (A1 ++ t :: A2) ++ C by simp, List.take_append_of_le_length (by simp; omega), List.take_of_length_le (by simp; omega)]
  rw [List.pairwise_append] at hs ⊢
  obtain ⟨s1, s2, s3⟩ := hs
  refine ⟨s1, List.pairwise_cons.2 ⟨h2, s2⟩, fun a ha b hb => ?_⟩
  have key : a.lt t = true := by
    rcases h1 with rfl | ⟨A, y, rfl, hy⟩
    · simp at ha
    · have hyt : y.lt t = true := by
        rcases lt_total y t with h | h | h
        · exact h
        · subst h
          exfalso
          rw [List.append_assoc, List.append_assoc, List.nodup_append] at hnd
          simp at hnd
        · rw [h] at hy; cases hy
      rcases List.mem_append.1 ha with ha | ha
      · exact lt_trans' _ _ _ ((List.pairwise_append.1 s1).2.2 a ha y (by simp)) hyt
      · rw [List.mem_singleton.1 ha]; exact hyt
  rcases List.mem_cons.1 hb with rfl | hb
  · exact key
  · exact s3 a ha b hb

theorem CellsS.at {base : Nat} {w : World} {g n cap i : Nat} {ss : List ByteArray} {t : ByteArray} (h : CellsS base w (.slice (some ⟨g, 0, none⟩) n cap) ss) (ht : ss[i]? = some t) : w.cell? ⟨g, i, none⟩ = some (.string t) := by
  obtain ⟨hi, rfl⟩ := List.getElem?_eq_some_iff.1 ht
  rcases h with ⟨h, _⟩ | ⟨g', cap', h, _, _, _, _, hc, _⟩
  · cases h
  · cases h
    rw [hc i hi, List.getD_eq_getElem?_getD, List.getElem?_eq_getElem hi]; rfl

theorem lt_asymm' (a b : Tr) (h : a.lt b = true) : b.lt a = false := by
  cases hh : b.lt a with
  | false => rfl
  | true =>
    have := lt_trans' _ _ _ h hh
    rw [lt_irrefl] at this
    cases this
theorem gt_text (t y : Tr) : (!(Go.Op.bytesLess y.str.toList t.str.toList || y.str.toList == t.str.toList)) = t.lt y := by
  rw [bytesLess_str]
  rcases lt_total y t with h | h | h
  · rw [h, lt_asymm' _ _ h]; rfl
  · subst h; simp [lt_irrefl]
  · have h3 : (y.str.toList == t.str.toList) = false := by
      rw [beq_eq_false_iff_ne]
      intro e
      have h4 := bytesLess_str t y
      rw [e, bytesLess_str, lt_irrefl, h] at h4
      cases h4
    rw [h, h3, lt_asymm' _ _ h]; rfl

/-- Two blocks are as they were, and v lies in neither. -/
def Far (w2 wr : World) (g1 g2 : Nat) (v : Value) : Prop := wr.heap[g1]? = w2.heap[g1]? ∧ wr.heap[g2]? = w2.heap[g2]? ∧ w2.heap.size ≤ wr.heap.size ∧ some g1 ≠ v.ownBlock ∧ some g2 ≠ v.ownBlock
theorem own_lt {base : Nat} {w : World} {v : Value} {ss : List ByteArray} (h : OwnS base w v ss) {b : Nat} (hb : some b = v.ownBlock) : b < w.heap.size := by
  rcases h.cells with ⟨rfl, _⟩ | ⟨g, cap, rfl, _, hg, _⟩
  · simp [Value.ownBlock] at hb
  · simp [Value.ownBlock] at hb; omega
theorem Far.start {base : Nat} {wr w2 : World} {g1 g2 : Nat} {v : Value} {ss : List ByteArray} (h : OwnS base wr v ss) (h1 : wr.heap.size ≤ g1) (h2 : wr.heap.size ≤ g2) : Far w2 w2 g1 g2 v :=
  ⟨rfl, rfl, Nat.le_refl _, fun e => by have := own_lt h e; omega, fun e => by have := own_lt h e; omega⟩
theorem Far.app {w2 wr w' : World} {g1 g2 : Nat} {v v' : Value} {x : Obj} (h : Far w2 wr g1 g2 v) (h1 : g1 < w2.heap.size) (h2 : g2 < w2.heap.size) (hg : (wr.alloc x).grownBy w' v.ownBlock) (ho : v'.ownBlock = v.ownBlock ∨ v'.ownBlock = some (wr.alloc x).heap.size) : Far w2 w' g1 g2 v' := by
  obtain ⟨p1, p2, p3, p4, p5⟩ := h
  have hs : (wr.alloc x).heap.size = wr.heap.size + 1 := by simp
  have hb := nxAlloc (Below.refl wr.heap.size wr) x
  refine ⟨(hg.block g1 (by omega) p4).trans ((hb.block g1 (by omega)).trans p1), (hg.block g2 (by omega) p5).trans ((hb.block g2 (by omega)).trans p2), ?_, ?_, ?_⟩
  · have := hg.size; omega
  · rcases ho with ho | ho <;> rw [ho]
    · exact p4
    · intro e; injection e with e; omega
  · rcases ho with ho | ho <;> rw [ho]
    · exact p5
    · intro e; injection e with e; omega

/-- What is asked of the sort that follows. -/
def GivesList (n : Nat) (w : World) (e : Ending) (w' : World) : Prop := GivesTexts (trTexts n) w e w'

set_option maxRecDepth 100000 in
set_option maxHeartbeats 4000000 in
theorem trList_any (n : Nat) : n ≤ 8 → ∀ w : World, Calls Try.prog 97 #[.int .i64 n] w (GivesTexts (trTexts n) w) := by
  obtain ⟨i0, hi, hz0, hz1, hz2⟩ := info_parts info_str
  induction n using Nat.strongRecOn with
  | _ n IH =>
    intro hn w
    cases n with
    | zero =>
      show Calls Try.prog 97 #[.int .i64 0] w (GivesTexts [Tr.lf.str] w)
      clear IH
      go_enter Try.func97, Try.ntmps97
      go_wp2_with fail
      go_ret
      exact ⟨_, _, OwnS.one w _, nxAlloc (Below.refl _ _) _, rfl⟩
    | succ m =>
      have hcast : (((m + 1 : Nat) : Int)) = (m : Int) + 1 := by omega
      have hmz : ((m : Int) + 1 == 0) = false := by rw [beq_eq_false_iff_ne]; omega
      have hm64 : (m : Int) ≤ 7 := by omega
      have hfull := rawT_small m (by omega)
      have hIH : ∀ i, i ≤ m → ∀ w, Calls Try.prog 97 #[.int .i64 i] w (GivesTexts (trTexts i) w) := fun i hi w => IH i (by omega) (by omega) w
      have HI := Lib.hid hIH
      rw [hcast]
      clear IH hIH hcast
      go_enter Try.func97, Try.ntmps97
      go_wp2_with fail
      go_loopw [3, 4] (fun v i wr => ∃ (k : Nat) (xs : List Tr), i = .int .i64 k ∧ k ≤ m + 1 ∧ OwnS w.heap.size wr v (xs.map Tr.str) ∧ Below w.heap.size w wr ∧ Hid (rawT m = xs ++ (List.range' k (m + 1 - k)).flatMap (rowF m))) (fun _ i _ => m + 1 - (intOf i).toNat)
      case atStart => exact ⟨0, [], rfl, Nat.zero_le _, OwnS.nil _ _, Below.refl _ _, by show _ = _; rw [rawT_rows]; rfl⟩
      case round =>
        obtain ⟨k, xs, rfl, hk, hown, hbw, he⟩ := hrel
        by_cases hlt : k < m + 1
        · have hlt' : (k : Int) < (m : Int) + 1 := by omega
          have e1 : IntKind.i64.wrap ((m : Int) + 1 - 1) = ((m : Nat) : Int) := by rw [IntKind.wrap_i64] <;> omega
          have e2 : IntKind.i64.wrap ((m : Int) - (k : Int)) = (((m - k : Nat)) : Int) := by rw [IntKind.wrap_i64] <;> omega
          have C1 := fun w => HI.out k (by omega) w
          have C2 := fun w => HI.out (m - k) (by omega) w
          go_wp2_with fail
          refine (C1 _).mono ?_; rintro e w1 ⟨g1, cap1, own1, hb1, rfl⟩
          have hbw1 := nx hbw hb1
          have hown1 := hown.keep hb1
          have hs1 := hb1.size
          have hfar : ∀ g1 g2 w2, wr.heap.size ≤ g1 → wr.heap.size ≤ g2 → Far w2 w2 g1 g2 u3 := fun g1 g2 w2 h1 h2 => Far.start hown h1 h2
          have HF := Lib.hid hfar
          clear hown hbw C1 hfar
          go_wp2_with fail
          refine (C2 _).mono ?_; rintro e w2 ⟨g2, cap2, own2, hb2, rfl⟩
          have hbw2 := nx hbw1 hb2
          have hown2 := hown1.keep hb2
          have own1' := own1.keep hb2
          clear hown1 hbw1 C2
          have hc1 := own1'.cells
          have hc2 := own2.cells
          clear own1 own2 own1' hb1 hb2 e1 e2
          rcases hc1 with ⟨h, _⟩ | ⟨g1', cap1', h, hgb1, hg1, hl1, hm1, hcell1, _⟩
          · cases h
          rcases hc2 with ⟨h', _⟩ | ⟨g2', cap2', h', hgb2, hg2, hl2, hm2, hcell2, _⟩
          · cases h'
          cases h
          cases h'
          have HC1 := Lib.hid hcell1
          have HC2 := Lib.hid hcell2
          clear hcell1 hcell2
          have hfar := HF.out g1 g2 w2 hgb1 (by omega)
          clear HF hs1
          have he' := he.out
          rw [show m + 1 - k = (m - k) + 1 by omega, List.range'_succ, List.flatMap_cons, rowF] at he'
          obtain ⟨rest, hrest⟩ : ∃ rest, rest = (List.range' (k + 1) (m - k)).flatMap (rowF m) := ⟨_, rfl⟩
          rw [← hrest] at he'
          have HE := Lib.hid he'
          have HR := Lib.hid hrest
          clear he he' hrest
          have hn1 : (trTexts k).length = (treesN k).length := by simp [trTexts]
          have hn2 : (trTexts (m - k)).length = (treesN (m - k)).length := by simp [trTexts]
          rw [hn1, hn2]
          have hL1 := treesN_small k (by omega)
          have hL2 := treesN_small (m - k) (by omega)
          have HN1 := Lib.hid hn1
          have HN2 := Lib.hid hn2
          clear hn1 hn2
          go_wp2_with fail
          go_loopw [3, 31] (fun v i wr2 => ∃ (a : Nat) (ys : List Tr), i = .int .i64 a ∧ a ≤ (treesN k).length ∧ OwnS w.heap.size wr2 v (ys.map Tr.str) ∧ Below w.heap.size w wr2 ∧ Far w2 wr2 g1 g2 v ∧ Hid (rawT m = ys ++ (((treesN k).drop a).flatMap (fun l => rowG l (treesN (m - k))) ++ rest))) (fun _ i _ => (treesN k).length - (intOf i).toNat)
          case atStart => exact ⟨0, xs, rfl, Nat.zero_le _, hown2, hbw2, hfar, HE⟩
          case round =>
            obtain ⟨a, ys, rfl, ha, hown3, hbw3, hbx3, he3⟩ := hrel
            by_cases hlta : a < (treesN k).length
            · have hlta' : (a : Int) < ((treesN k).length : Int) := by omega
              obtain ⟨t, ht⟩ : ∃ t, (treesN k)[a]? = some t := ⟨_, List.getElem?_eq_getElem hlta⟩
              have c1 := (World.cell?_of_block (a := ⟨g1, a, none⟩) hbx3.1).trans (HC1.out a (by rw [HN1.out]; exact hlta))
              rw [show (trTexts k).getD a ⟨#[]⟩ = t.str by simp [trTexts, List.getD_eq_getElem?_getD, ht]] at c1
              have htc : t.carets = k := (mem_treesN k t).1 (List.mem_of_getElem? ht)
              have he3' := he3.out
              rw [rowF_at a ht] at he3'
              obtain ⟨rest2, hrest2⟩ : ∃ rest2, rest2 = ((treesN k).drop (a + 1)).flatMap (fun l => rowG l (treesN (m - k))) ++ rest := ⟨_, rfl⟩
              rw [List.append_assoc, ← hrest2] at he3'
              have HE3 := Lib.hid he3'
              have HR2 := Lib.hid hrest2
              clear he3 he3' hrest2 ht
              go_wp2_with fail
              go_loopw [3, 37] (fun v i wr3 => ∃ (b : Nat) (zs : List Tr), i = .int .i64 b ∧ b ≤ (treesN (m - k)).length ∧ OwnS w.heap.size wr3 v (zs.map Tr.str) ∧ Below w.heap.size w wr3 ∧ Far w2 wr3 g1 g2 v ∧ Hid (rawT m = zs ++ (rowG t ((treesN (m - k)).drop b) ++ rest2))) (fun _ i _ => (treesN (m - k)).length - (intOf i).toNat)
              case atStart => exact ⟨0, ys, rfl, Nat.zero_le _, hown3, hbw3, hbx3, HE3⟩
              case round =>
                clear hown3 hbw3 hbx3 HE3 c1
                obtain ⟨b, zs, rfl, hb, hown4, hbw4, hbx4, he4⟩ := hrel
                have he4' := he4.out
                by_cases hltb : b < (treesN (m - k)).length
                · have hltb' : (b : Int) < ((treesN (m - k)).length : Int) := by omega
                  obtain ⟨r, hr⟩ : ∃ r, (treesN (m - k))[b]? = some r := ⟨_, List.getElem?_eq_getElem hltb⟩
                  have c2 := (World.cell?_of_block (a := ⟨g2, b, none⟩) hbx4.2.1).trans (HC2.out b (by rw [HN2.out]; exact hltb))
                  rw [show (trTexts (m - k)).getD b ⟨#[]⟩ = r.str by simp [trTexts, List.getD_eq_getElem?_getD, hr]] at c2
                  have hrc : r.carets = m - k := (mem_treesN _ r).1 (List.mem_of_getElem? hr)
                  have hsplit : rowG t ((treesN (m - k)).drop b) = .nd t r :: rowG t ((treesN (m - k)).drop (b + 1)) := by
                    obtain ⟨hk', rfl⟩ := List.getElem?_eq_some_iff.1 hr
                    rw [List.drop_eq_getElem_cons hk']; rfl
                  rw [hsplit] at he4'
                  have hzl : zs.length ≤ 5000 := by
                    have := congrArg List.length he4'
                    rw [List.length_append] at this
                    omega
                  have he5 : rawT m = (zs ++ [Tr.nd t r]) ++ (rowG t ((treesN (m - k)).drop (b + 1)) ++ rest2) := by rw [he4']; simp
                  have HE5 := Lib.hid he5
                  have hO := fun w => trOf_any t r w (by omega)
                  obtain ⟨qs, hqs⟩ : ∃ qs, qs = zs.map Tr.str := ⟨_, rfl⟩
                  have hql : qs.length ≤ 5000 := by rw [hqs, List.length_map]; exact hzl
                  rw [← hqs] at hown4
                  have HQ := Lib.hid hqs
                  clear hqs
                  clear he4 he4' he5 hsplit hr
                  go_wp2_with fail
                  refine (hO _).mono ?_; rintro e w3 ⟨rfl, rfl⟩
                  go_wp2_with (at_builtin; refine wpList_append_own_at _ rfl _ _ 99 rfl w.heap.size 9 i0 (.string ⟨#[]⟩) 1 16 Try.underlying99 hi hz0 hz1 hz2 rfl (by decide) _ _ _ rfl (hown4.alloc _) ⟨wr.heap.size, 0, none⟩ 1 1 [.string (Tr.nd t r).str] rfl rfl (new1 _ _ _) (oneS1 _) (by unfold maxLen; omega) (by omega) (size_al hbw4 _) ?_; intro v' w1 hown' hgrow hnn hob)
                  have hbw' := below_app hbw4 hown4 (Nat.le_refl _) hgrow
                  have hbx' := hbx4.app hg1 hg2 hgrow hob
                  have hown1 := OwnS.snoc hown'
                  have hq' : qs ++ [(Tr.nd t r).str] = (zs ++ [Tr.nd t r]).map Tr.str := by rw [HQ.out]; simp
                  rw [hq'] at hown1
                  clear hown' hown4 hgrow hob hnn hbw4 hbx4 HQ hq' hql
                  go_wp2_with fail
                  go_roundw
                  case rel => exact ⟨b + 1, zs ++ [Tr.nd t r], by go_num, by omega, hown1, hbw', hbx', HE5⟩
                  case measure => simp [intOf]; omega
                · obtain rfl : b = (treesN (m - k)).length := by omega
                  rw [List.drop_length] at he4'
                  have he5 : rawT m = zs ++ rest2 := he4'
                  rw [HR2.out] at he5
                  have HE5 := Lib.hid he5
                  clear he4 he4' he5
                  go_wp2_with fail
                  go_roundw
                  case rel => exact ⟨a + 1, zs, by go_num, by omega, hown4, hbw4, hbx4, HE5⟩
                  case measure => simp [intOf]; omega
            · obtain rfl : a = (treesN k).length := by omega
              have he3' := he3.out
              rw [List.drop_length] at he3'
              have he5 : rawT m = ys ++ rest := he3'
              rw [HR.out] at he5
              have HE5 := Lib.hid he5
              clear he3 he3' he5
              go_wp2_with fail
              go_roundw
              case rel => exact ⟨k + 1, ys, by go_num, by omega, hown3, hbw3, by rw [show m + 1 - (k + 1) = m - k by omega]; exact HE5⟩
              case measure => simp [intOf]; omega
        · obtain rfl : k = m + 1 := by omega
          have he' := he.out
          rw [Nat.sub_self] at he'
          have hx : rawT m = xs := by rw [he']; simp
          have hN : 0 < xs.length := by
            rw [← hx, rawT_length m (by omega)]
            have := trTexts_pos (m + 1) hn
            simpa [trTexts] using this
          have hN5 : xs.length ≤ 5000 := by rw [← hx]; exact hfull
          obtain ⟨g, cap, rfl⟩ := hown.shape (by simpa using hN)
          have hgb : w.heap.size ≤ g := by
            rcases hown.cells with ⟨h, _⟩ | ⟨g', cap', h, hb, _⟩
            · cases h
            · cases h; exact hb
          have hS : SortK m 1 xs := ⟨by rw [hx], by cases xs with
            | nil => simp at hN
            | cons a l => simp⟩
          rw [List.length_map] at hown ⊢
          obtain ⟨N, hNe⟩ : ∃ N, N = xs.length := ⟨_, rfl⟩
          rw [← hNe] at hown hN hN5 ⊢
          have HS : Hid (xs.length = N ∧ SortK m 1 xs) := ⟨hNe.symm, hS⟩
          clear he he' hx hS hNe hk hlt hfull
          go_wp2_with fail
          go_loopw [11] (fun i wr => ∃ (k : Nat) (L : List Tr), i = .int .i64 k ∧ 1 ≤ k ∧ k ≤ N ∧ OwnS w.heap.size wr (.slice (some ⟨g, 0, none⟩) N cap) (L.map Tr.str) ∧ Below w.heap.size w wr ∧ Hid (L.length = N ∧ SortK m k L)) (fun i _ => N - (intOf i).toNat)
          case atStart => exact ⟨1, xs, rfl, Nat.le_refl _, hN, hown, hbw, HS⟩
          case round =>
            clear hown hbw HS
            obtain ⟨k, L, rfl, hk1, hkN, hown, hbw, hs⟩ := hrel
            have hlen : (L.map Tr.str).length = N := by rw [List.length_map]; exact hs.out.1
            by_cases hlt : k < N
            · have hlt' : (k : Int) < (N : Int) := by omega
              obtain ⟨hL, hK⟩ := hs.out
              obtain ⟨t, ht⟩ : ∃ t, L[k]? = some t := ⟨_, List.getElem?_eq_getElem (by omega)⟩
              have hsplit : L = L.take k ++ t :: L.drop (k + 1) := by
                obtain ⟨hk', rfl⟩ := List.getElem?_eq_some_iff.1 ht
                rw [List.getElem_cons_drop, List.take_append_drop]
              obtain ⟨A, hA⟩ : ∃ A, A = L.take k := ⟨_, rfl⟩
              obtain ⟨C, hC⟩ : ∃ C, C = L.drop (k + 1) := ⟨_, rfl⟩
              have hAl : A.length = k := by rw [hA, List.length_take]; omega
              rw [← hA, ← hC] at hsplit
              clear hA hC
              subst hsplit
              have hcell := CellsS.at hown.cells (i := k) (t := t.str) (by rw [List.getElem?_map, ht]; rfl)
              have HK := Lib.hid hK
              have HL := Lib.hid hL
              clear ht hs hlen hK hL
              go_wp2_with fail
              go_loopw [13] (fun j wr => ∃ (q : Nat) (A1 A2 : List Tr) (x : Tr), j = .int .i64 q ∧ A1.length = q ∧ OwnS w.heap.size wr (.slice (some ⟨g, 0, none⟩) N cap) ((A1 ++ x :: (A2 ++ C)).map Tr.str) ∧ Below w.heap.size w wr ∧ Hid (A = A1 ++ A2 ∧ ∀ y ∈ A2, t.lt y = true)) (fun j _ => (intOf j).toNat)
              case atStart => exact ⟨k, A, [], t, rfl, hAl, hown, hbw, by show _ ∧ _; simp⟩
              case round =>
                clear hown hbw hcell
                obtain ⟨q, A1, A2, x, rfl, hq, hown, hbw, hs⟩ := hrel
                have hqk : q ≤ k := by
                  have := congrArg List.length hs.out.1
                  simp at this; omega
                have hnl : ((A1 ++ x :: (A2 ++ C)).map Tr.str).length = N := by
                  have h1 := HL.out
                  rw [hs.out.1] at h1
                  simp at h1 ⊢; omega
                have hcx := CellsS.at hown.cells (i := q) (t := x.str) (by subst hq; simp)
                have hfz : wr.frozen? ⟨g, q, none⟩ = false := by
                  rcases hown.cells with ⟨h, _⟩ | ⟨g', cap', h, _, _, _, _, _, hf⟩
                  · cases h
                  · cases h; exact hf q
                have hqN : q ≤ 5000 := by omega
                rcases List.eq_nil_or_concat A1 with hnil | ⟨B, y, hB⟩
                · have hq0 : q = 0 := by rw [← hq, hnil]; rfl
                  have hS' := sort_round (A1 := A1) (A2 := A2) (C := C) (t := t) (m := m) (k := k) (by rw [← hs.out.1]; exact HK.out) (by have := congrArg List.length hs.out.1; simp at this; omega) hs.out.2 (.inl hnil)
                  have hl2 : (A1 ++ t :: (A2 ++ C)).length = N := by have h1 := HL.out; rw [hs.out.1] at h1; simp at h1 ⊢; omega
                  have hown1 := OwnS.set hnl hown q t.str
                  have hset : ((A1 ++ x :: (A2 ++ C)).map Tr.str).set q t.str = (A1 ++ t :: (A2 ++ C)).map Tr.str := by subst hq; simp
                  rw [hset] at hown1
                  have hbw1 : Below w.heap.size w (wr.setCell ⟨g, q, none⟩ (.string t.str)) := Below.setCell hbw hgb _
                  have HS1 : Hid ((A1 ++ t :: (A2 ++ C)).length = N ∧ SortK m (k + 1) (A1 ++ t :: (A2 ++ C))) := ⟨hl2, hS'⟩
                  clear hS' hl2 hset hnl hs
                  subst hq0
                  clear hown hbw hnil
                  go_wp2_with fail
                  go_roundw
                  case rel => exact ⟨k + 1, _, by go_num, by omega, by omega, hown1, hbw1, HS1⟩
                  case measure => simp [intOf]; omega
                · rw [List.concat_eq_append] at hB
                  have hqB : q = B.length + 1 := by rw [← hq, hB]; simp
                  have hcy := CellsS.at hown.cells (i := B.length) (t := y.str) (by rw [hB]; simp)
                  have e1 : IntKind.i64.wrap ((q : Int) - 1) = ((B.length : Nat) : Int) := by rw [IntKind.wrap_i64] <;> omega
                  have e0 : (0 : Int) < (q : Int) := by omega
                  have e2 : ((B.length : Nat) : Int) < (N : Int) := by omega
                  have e3 : (q : Int) < (N : Int) := by omega
                  have HqB := Lib.hid hqB
                  have hcmp := gt_text t y
                  have hgt : (binOp BinOp.gtr 9 (.string y.str) (.string t.str)).run Try.prog wr = .ok (.bool (!(Go.Op.bytesLess y.str.toList t.str.toList || y.str.toList == t.str.toList))) wr := rfl
                  cases hty : t.lt y with
                  | true =>
                    rw [hcmp, hty] at hgt
                    clear hcmp
                    have hown1 := OwnS.set hnl hown q y.str
                    have hset : ((A1 ++ x :: (A2 ++ C)).map Tr.str).set q y.str = (B ++ y :: ((y :: A2) ++ C)).map Tr.str := by subst hq; rw [hB]; simp
                    rw [hset] at hown1
                    have hbw1 : Below w.heap.size w (wr.setCell ⟨g, q, none⟩ (.string y.str)) := Below.setCell hbw hgb _
                    have HS1 : Hid (A = B ++ (y :: A2) ∧ ∀ z ∈ y :: A2, t.lt z = true) := ⟨by rw [hs.out.1, hB]; simp, by
                      intro z hz
                      rcases List.mem_cons.1 hz with rfl | hz
                      · exact hty
                      · exact hs.out.2 z hz⟩
                    clear hown hbw hs hset hnl hB hqB hq hty
                    go_wp2_with fail
                    go_roundw
                    case rel =>
                      (repeat apply Exists.intro)
                      refine ⟨?_, rfl⟩
                      exact ⟨B.length, B, y :: A2, y, by first | rfl | (have := HqB.out; go_num), rfl, hown1, hbw1, HS1⟩
                    case measure => have := HqB.out; simp [intOf]; omega
                  | false =>
                    rw [hcmp, hty] at hgt
                    clear hcmp
                    have hS' := sort_round (A1 := A1) (A2 := A2) (C := C) (t := t) (m := m) (k := k) (by rw [← hs.out.1]; exact HK.out) (by have := congrArg List.length hs.out.1; simp at this; omega) hs.out.2 (.inr ⟨B, y, hB, hty⟩)
                    have hl2 : (A1 ++ t :: (A2 ++ C)).length = N := by have h1 := HL.out; rw [hs.out.1] at h1; simp at h1 ⊢; omega
                    have hown1 := OwnS.set hnl hown q t.str
                    have hset : ((A1 ++ x :: (A2 ++ C)).map Tr.str).set q t.str = (A1 ++ t :: (A2 ++ C)).map Tr.str := by subst hq; simp
                    rw [hset] at hown1
                    have hbw1 : Below w.heap.size w (wr.setCell ⟨g, q, none⟩ (.string t.str)) := Below.setCell hbw hgb _
                    have HS1 : Hid ((A1 ++ t :: (A2 ++ C)).length = N ∧ SortK m (k + 1) (A1 ++ t :: (A2 ++ C))) := ⟨hl2, hS'⟩
                    clear hS' hl2 hset hnl hs
                    clear hown hbw hB hqB hq hty
                    go_wp2_with fail
                    go_roundw
                    case rel =>
                      (repeat apply Exists.intro)
                      refine ⟨?_, rfl⟩
                      exact ⟨k + 1, _, by go_num, by omega, by omega, hown1, hbw1, HS1⟩
                    case measure => simp [intOf]; omega
            · obtain rfl : k = N := by omega
              have hfin := sort_done hs.out.1 hs.out.2
              go_wp2_with fail
              go_ret
              exact ⟨g, cap, by rw [trTexts, ← hfin, hlen]; exact hown, hbw, by rw [trTexts, ← hfin, hlen]; rfl⟩
end Go.Proofs.Ytkpganpojdboeaa

/-! Text -/
namespace Go.Proofs.Ytkpganpojdboeaa
open Go.RowKit

theorem isLeaf_any (t : Tr) (b : Nat) (w : World) (h : NodeAt w t b) :
    Calls Try.prog 96 #[.pointer (some ⟨b, 0, none⟩)] w fun e w' => e = .returned (.bool t.isLf) ∧ w = w' := by
  cases t with
  | lf =>
    have h1 := two_left h
    have H := Lib.hid h
    clear h
    go_enter Try.func96, Try.ntmps96
    go_wp2_with fail
    go_ret
    exact ⟨rfl, rfl⟩
  | nd l r =>
    obtain ⟨bl, br, h, hl, hr⟩ := h
    have h1 := two_left h
    have H := Lib.hid h
    clear h
    go_enter Try.func96, Try.ntmps96
    go_wp2_with fail
    go_ret
    exact ⟨rfl, rfl⟩

theorem NodeAt.heap {w w' : World} (e : w'.heap = w.heap) : ∀ {t : Tr} {b : Nat}, NodeAt w t b → NodeAt w' t b := by
  intro t
  induction t with
  | lf => intro b h; unfold NodeAt at *; rw [e]; exact h
  | nd l r ihl ihr =>
    intro b h
    obtain ⟨bl, br, h, h1, h2⟩ := h
    exact ⟨bl, br, by rw [e]; exact h, ihl h1, ihr h2⟩
theorem NodeAt.drewN {w : World} (n : Nat) {t : Tr} {b : Nat} (h : NodeAt w t b) : NodeAt (w.drewN n) t b := NodeAt.heap (w := w) (w' := w.drewN n) rfl h

set_option maxHeartbeats 400000 in
theorem text_any (t : Tr) : ∀ (b : Nat) (w : World), NodeAt w t b → t.carets ≤ 1000 →
    Calls Try.prog 64 #[.pointer (some ⟨b, 0, none⟩)] w (Quietly (.string t.str) w) := by
  induction t with
  | lf =>
    intro b w h hc
    have H := Lib.hid h
    clear h
    go_enter Try.func64, Try.ntmps64
    go_wp2_with fail
    refine (isLeaf_any .lf b _ H.out).mono ?_; rintro e w1 ⟨rfl, rfl⟩
    simp only [Tr.isLf]
    go_wp2_with fail
    go_ret
    exact ⟨rfl, 0, rfl⟩
  | nd l r ihl ihr =>
    intro b w h hc
    have hc' : l.carets + r.carets + 1 ≤ 1000 := hc
    have sl := l.str_size
    have sr := r.str_size
    have H := Lib.hid h
    obtain ⟨bl, br, h, hl, hr⟩ := h
    have h1 := two_left h
    have h2 := two_right h
    clear h
    go_enter Try.func64, Try.ntmps64
    go_wp2_with fail
    refine (isLeaf_any (.nd l r) b _ H.out).mono ?_; rintro e w1 ⟨rfl, rfl⟩
    simp only [Tr.isLf]
    go_wp2_with fail
    go_quiet ((go_at_call 64; first | exact Calls.quiet_of (ihl _ _ (hl.drewN _) (by omega)) | exact Calls.quiet_of (ihr _ _ (hr.drewN _) (by omega))))
    go_wp2_with fail
    go_ret
    exact ⟨by rw [str_nd]; rfl, _, rfl⟩
end Go.Proofs.Ytkpganpojdboeaa

/-! In0 -/
namespace Go.Proofs.Ytkpganpojdboeaa
open Go.RowKit

theorem l1In_yes (n lo hi : Int) (w : World) (h1 : lo ≤ n) (h2 : n ≤ hi) :
    Calls Try.prog 65 #[.int .i64 n, .int .i64 lo, .int .i64 hi] w fun e w' => e = .returned (.bool true) ∧ w = w' := by
  go_enter Try.func65, Try.ntmps65
  go_wp2_with fail
  go_ret
  exact ⟨rfl, rfl⟩
theorem l1In_no (n lo hi : Int) (w : World) (h : n < lo ∨ hi < n) :
    Calls Try.prog 65 #[.int .i64 n, .int .i64 lo, .int .i64 hi] w fun e w' => e = .returned (.bool false) ∧ w = w' := by
  by_cases h1 : n < lo
  · clear h
    go_enter Try.func65, Try.ntmps65
    go_wp2_with fail
    go_ret
    exact ⟨rfl, rfl⟩
  · have h1' : lo ≤ n := by omega
    have h2 : hi < n := by omega
    clear h h1
    go_enter Try.func65, Try.ntmps65
    go_wp2_with fail
    go_ret
    exact ⟨ret_bool (by simp; omega), rfl⟩

end Go.Proofs.Ytkpganpojdboeaa

/-! In -/
namespace Go.Proofs.Ytkpganpojdboeaa
open Go.RowKit

/-- An answer of a text and a bool. -/
def ans2 (o : Option ByteArray) : Value := .tuple #[.string (o.getD ⟨#[]⟩), .bool o.isSome]

end Go.Proofs.Ytkpganpojdboeaa

/-! Comb -/
namespace Go.Proofs.Ytkpganpojdboeaa
open Go.RowKit

def rcomb : Nat → Tr
  | 0 => .lf
  | n + 1 => .nd .lf (rcomb n)
def lcomb : Nat → Tr
  | 0 => .lf
  | n + 1 => .nd (lcomb n) .lf
theorem rcomb_carets (n : Nat) : (rcomb n).carets = n := by induction n with | zero => rfl | succ n ih => simp [rcomb, Tr.carets, ih]
theorem lcomb_carets (n : Nat) : (lcomb n).carets = n := by induction n with | zero => rfl | succ n ih => simp [lcomb, Tr.carets, ih]
theorem rcomb_mir (n : Nat) : (rcomb n).mir = lcomb n := by induction n with | zero => rfl | succ n ih => simp [rcomb, lcomb, Tr.mir, ih]

theorem under_right (k : Nat) (w : World) (h : k ≤ 100) :
    Calls Try.prog 151 #[.string (rcomb k).str] w fun e w' => e = .returned (.string (rcomb (k + 1)).str) ∧ w = w' := by
  have hz := (rcomb k).str_size
  rw [rcomb_carets] at hz
  have e1 : (rcomb (k + 1)).str = ⟨#[40, 46]⟩ ++ (rcomb k).str ++ ⟨#[41]⟩ := by
    apply ba_ext
    rw [rcomb]
    simp [Tr.str, Tr.text]
  have E1 := Lib.hid e1
  clear e1
  go_enter Try.func151, Try.ntmps151
  go_wp2_with fail
  go_ret
  exact ⟨ret_str (by rw [E1.out]), rfl⟩
theorem under_left (k : Nat) (w : World) (h : k ≤ 100) :
    Calls Try.prog 152 #[.string (lcomb k).str] w fun e w' => e = .returned (.string (lcomb (k + 1)).str) ∧ w = w' := by
  have hz := (lcomb k).str_size
  rw [lcomb_carets] at hz
  have e1 : (lcomb (k + 1)).str = ⟨#[40]⟩ ++ (lcomb k).str ++ ⟨#[46]⟩ ++ ⟨#[41]⟩ := by
    apply ba_ext
    rw [lcomb]
    simp [Tr.str, Tr.text]
  have E1 := Lib.hid e1
  clear e1
  go_enter Try.func152, Try.ntmps152
  go_wp2_with fail
  go_ret
  exact ⟨ret_str (by rw [E1.out]), rfl⟩

def combO (g : Nat → Tr) (n : Int) : Option Tr := if 0 ≤ n ∧ n ≤ 8 then some (g n.toNat) else none

set_option maxHeartbeats 400000 in
theorem comb_any (g : Nat → Tr) (f : FuncId) (n : Int) (w : World) (h0 : g 0 = .lf)
    (hf : ∀ k w, k ≤ 100 → Calls Try.prog f #[.string (g k).str] w fun e w' => e = .returned (.string (g (k + 1)).str) ∧ w = w')
    (hcall : ∀ (args : Array Value) (w : World), (callFunc f args).run Try.prog w = .ok (.enter f args) w) :
    Calls Try.prog 150 #[.int .i64 n, .func (Fn.func f) #[] #[]] w fun e w' => e = .returned (ansV (combO g n)) ∧ w = w' := by
  unfold combO
  by_cases h1 : n < 0
  · rw [if_neg (by omega)]
    clear hf
    go_enter Try.func150, Try.ntmps150
    go_wp2_with fail
    go_ret2
    exact ⟨rfl, rfl⟩
  · by_cases h2 : 8 < n
    · rw [if_neg (by omega)]
      clear hf
      go_enter Try.func150, Try.ntmps150
      go_wp2_with fail
      go_ret2
      exact ⟨rfl, rfl⟩
    · rw [if_pos (by omega)]
      have HF := Lib.hid hf
      have H0 := Lib.hid h0
      clear hf h0
      go_enter Try.func150, Try.ntmps150
      go_wp2_with fail
      go_loop [6, 14] (fun t i => ∃ k : Nat, (k : Int) ≤ n ∧ i = .int .i64 k ∧ t = .string (g k).str) (fun _ i => n.toNat - (intOf i).toNat)
      case atStart => exact ⟨0, by omega, rfl, by rw [H0.out]; rfl⟩
      case round =>
        obtain ⟨k, hk, rfl, rfl⟩ := hrel
        by_cases hlt : (k : Int) < n
        · go_wp2_with fail
          refine (HF.out k _ (by omega)).mono ?_; rintro e w1 ⟨rfl, rfl⟩
          go_wp2_with fail
          go_round
          case rel => exact ⟨k + 1, by omega, by go_num, rfl⟩
          case measure => simp [intOf]; omega
        · obtain rfl : n = k := by omega
          go_wp2_with fail
          go_ret2
          exact ⟨rfl, rfl⟩

theorem implRightComb_any (n : Int) (w : World) (_lo : -9223372036854775808 ≤ n) (_hi : n ≤ 9223372036854775807) :
    Calls Try.prog 135 #[.int .i64 n] w (Gives (ansV (combO rcomb n)) w) := by
  go_enter Try.func135, Try.ntmps135
  go_wp2_with fail
  refine (comb_any rcomb 151 n _ rfl under_right (fun _ _ => by kernel_rfl)).mono ?_; rintro e w1 ⟨rfl, rfl⟩
  unfold ansV
  go_wp2_with fail
  go_ret2
  exact ⟨rfl, Below.refl _ _⟩

theorem implLeftComb_any (n : Int) (w : World) (_lo : -9223372036854775808 ≤ n) (_hi : n ≤ 9223372036854775807) :
    Calls Try.prog 136 #[.int .i64 n] w (Gives (ansV (combO lcomb n)) w) := by
  go_enter Try.func136, Try.ntmps136
  go_wp2_with fail
  refine (comb_any lcomb 152 n _ rfl under_left (fun _ _ => by kernel_rfl)).mono ?_; rintro e w1 ⟨rfl, rfl⟩
  unfold ansV
  go_wp2_with fail
  go_ret2
  exact ⟨rfl, Below.refl _ _⟩

theorem trRight_any (n : Nat) (w : World) (h : n ≤ 100) :
    Calls Try.prog 132 #[.int .i64 n] w fun e w' => e = .returned (.string (rcomb n).str) ∧ w = w' := by
  go_enter Try.func132, Try.ntmps132
  go_wp2_with fail
  go_loop [0, 3] (fun i t => ∃ k : Nat, k ≤ n ∧ i = .int .i64 k ∧ t = .string (rcomb (n - k)).str) (fun i _ => (intOf i).toNat)
  case atStart => exact ⟨n, Nat.le_refl _, rfl, by rw [Nat.sub_self]; rfl⟩
  case round =>
    obtain ⟨k, hk, rfl, rfl⟩ := hrel
    by_cases hlt : (0 : Int) < k
    · have hc := rcomb_carets (n - k)
      have he : Hid (rcomb (n - k + 1) = rcomb (n - (k - 1))) := by show _ = _; congr 1; omega
      go_wp2_with fail
      refine (trOf_any .lf (rcomb (n - k)) _ (by simp [Tr.carets, hc]; omega)).mono ?_; rintro e w1 ⟨rfl, rfl⟩
      go_wp2_with fail
      go_round
      case rel => exact ⟨k - 1, by omega, by go_num, by rw [← he.out]; rfl⟩
      case measure => simp [intOf]; omega
    · obtain rfl : k = 0 := by omega
      go_wp2_with fail
      go_ret
      exact ⟨rfl, rfl⟩

end Go.Proofs.Ytkpganpojdboeaa

/-! CountT -/
namespace Go.Proofs.Ytkpganpojdboeaa
open Go.RowKit

set_option maxHeartbeats 1000000 in
theorem countLists_any (t c : Nat) (w : World) (ht : 1 ≤ t) (ht' : t ≤ 20) (hc : c ≤ 8) :
    Calls Try.prog 126 #[.int .i64 t, .int .i64 c] w fun e w' => e = .returned (.int .i64 (listsN t c)) ∧ w = w' := by
  go_enter Try.func126, Try.ntmps126
  go_wp2_with fail
  go_loop [6, 13] (fun v i => ∃ k : Nat, k ≤ c ∧ i = .int .i64 k ∧ v = .int .i64 (chM (2 * c + t) k)) (fun _ i => c - (intOf i).toNat)
  case atStart => exact ⟨0, Nat.zero_le _, rfl, rfl⟩
  case round =>
    obtain ⟨k, hk, rfl, rfl⟩ := hrel
    have hb := chM_bd (2 * c + t) k (by omega) (by omega)
    by_cases hlt : (k : Int) < c
    · have hb1 : (0 : Int) ≤ (chM (2 * c + t) k : Int) * (2 * (c : Int) + t - k) ∧ (chM (2 * c + t) k : Int) * (2 * (c : Int) + t - k) ≤ 6553600000000 * 40 := by
        have e : (2 * (c : Int) + t - k) = ((2 * c + t - k : Nat) : Int) := by omega
        rw [e, ← Int.natCast_mul]
        have := Nat.mul_le_mul hb (show 2 * c + t - k ≤ 40 by omega)
        omega
      have hs : Hid (((chM (2 * c + t) k : Nat) : Int) * (2 * (c : Int) + t - k) / ((k : Int) + 1) = (chM (2 * c + t) (k + 1) : Nat)) := by
        show _ = _
        have e : (2 * (c : Int) + t - k) = ((2 * c + t - k : Nat) : Int) := by omega
        rw [e, ← Int.natCast_mul, chM]
        rfl
      go_wp2_with fail
      go_round
      case rel => exact ⟨k + 1, by omega, by go_num, by rw [hs.out]⟩
      case measure => simp [intOf]; omega
    · obtain rfl : k = c := by omega
      have hb1 : (0 : Int) ≤ (chM (2 * k + t) k : Int) * (t : Int) ∧ (chM (2 * k + t) k : Int) * (t : Int) ≤ 6553600000000 * 40 := by
        rw [← Int.natCast_mul]
        have := Nat.mul_le_mul hb (show t ≤ 40 by omega)
        omega
      have hs : Hid (((chM (2 * k + t) k : Nat) : Int) * (t : Int) / (2 * (k : Int) + t) = (listsN t k : Nat)) := by
        show _ = _
        unfold listsN
        rw [← Int.natCast_mul]
        have e : (2 * (k : Int) + t) = ((2 * k + t : Nat) : Int) := by omega
        rw [e]
        rfl
      go_wp2_with fail
      go_ret
      exact ⟨ret_int hs.out, rfl⟩

/-- An answer of a number and a bool. -/
def ansN (o : Option Nat) : Value := .tuple #[.int .i64 (o.getD 0), .bool o.isSome]
def countO (n : Int) : Option Nat := if 0 ≤ n ∧ n ≤ 8 then some (catN n.toNat) else none

end Go.Proofs.Ytkpganpojdboeaa

/-! Next1 -/
namespace Go.Proofs.Ytkpganpojdboeaa
open Go.RowKit

/-- Block b is a walk: trees, carets, rank. -/
def WkAt (w : World) (b m c r : Nat) : Prop := w.heap[b]? = some (.cells #[.int .i64 m, .int .i64 c, .int .i64 r] 124 (0, 0))
theorem WkAt.cells {w : World} {b m c r : Nat} (h : WkAt w b m c r) : w.cell? ⟨b, 0, none⟩ = some (.int .i64 m) ∧ w.cell? ⟨b, 1, none⟩ = some (.int .i64 c) ∧ w.cell? ⟨b, 2, none⟩ = some (.int .i64 r) ∧ w.frozen? ⟨b, 0, none⟩ = false ∧ w.frozen? ⟨b, 1, none⟩ = false ∧ w.frozen? ⟨b, 2, none⟩ = false := by
  unfold WkAt at h
  simp [World.cell?, World.frozen?, h]
theorem WkAt.set0 {w : World} {b m c r : Nat} (h : WkAt w b m c r) (n : Nat) : WkAt (w.setCell ⟨b, 0, none⟩ (.int .i64 n)) b n c r := Joins.block_setCell h _
theorem WkAt.set1 {w : World} {b m c r : Nat} (h : WkAt w b m c r) (n : Nat) : WkAt (w.setCell ⟨b, 1, none⟩ (.int .i64 n)) b m n r := Joins.block_setCell h _
theorem WkAt.set2 {w : World} {b m c r : Nat} (h : WkAt w b m c r) (n : Nat) : WkAt (w.setCell ⟨b, 2, none⟩ (.int .i64 n)) b m c n := Joins.block_setCell h _
theorem WkAt.keep {w w' : World} {b m c r : Nat} (hb : Below w.heap.size w w') (h : WkAt w b m c r) : WkAt w' b m c r := (hb.block b (lt_of_block h)).trans h
theorem grown_set (w : World) (b i : Nat) (v : Value) : w.grownBy (w.setCell ⟨b, i, none⟩ v) (some b) :=
  ⟨rfl, rfl, rfl, by simp, fun k _ hk => heap_setCell_other w ⟨b, i, none⟩ k v (fun e => hk (by rw [e]))⟩
theorem grownR (w : World) (r : Option Nat) : w.grownBy w r := ⟨rfl, rfl, rfl, Nat.le_refl _, fun _ _ _ => rfl⟩
theorem grownT {a b c : World} {r : Option Nat} (h : a.grownBy b r) (k : b.grownBy c r) : a.grownBy c r :=
  ⟨k.os.trans h.os, k.tape.trans h.tape, k.output.trans h.output, Nat.le_trans h.size k.size, fun i hi hn => (k.block i (Nat.lt_of_lt_of_le hi h.size) hn).trans (h.block i hi hn)⟩
theorem grownB {a b c : World} {r : Option Nat} (h : a.grownBy b r) (k : Below b.heap.size b c) : a.grownBy c r :=
  ⟨k.os.trans h.os, k.tape.trans h.tape, k.output.trans h.output, Nat.le_trans h.size k.size, fun i hi hn => (k.block i (Nat.lt_of_lt_of_le hi h.size)).trans (h.block i hi hn)⟩

theorem grownD {w w' : World} {n : Nat} {r : Option Nat} (h : (w.drewN n).grownBy w' r) : w.grownBy w' r := ⟨h.os, h.tape, h.output, h.size, h.block⟩

/-- Nodes in blocks from n0 on. -/
def NodeUp (n0 : Nat) (w : World) : Tr → Nat → Prop
  | .lf, b => n0 ≤ b ∧ w.heap[b]? = some (.cells #[.pointer none, .pointer none] 68 (0, 0))
  | .nd l r, b => n0 ≤ b ∧ ∃ bl br, w.heap[b]? = some (.cells #[.pointer (some ⟨bl, 0, none⟩), .pointer (some ⟨br, 0, none⟩)] 68 (0, 0)) ∧ NodeUp n0 w l bl ∧ NodeUp n0 w r br
theorem NodeUp.at {n0 : Nat} {w : World} : ∀ {t : Tr} {b : Nat}, NodeUp n0 w t b → NodeAt w t b := by
  intro t
  induction t with
  | lf => intro b h; exact h.2
  | nd l r ihl ihr => intro b h; obtain ⟨_, bl, br, h, h1, h2⟩ := h; exact ⟨bl, br, h, ihl h1, ihr h2⟩
theorem NodeUp.kept {n0 b0 : Nat} {w w' : World} (hg : w.grownBy w' (some b0)) (hb : b0 < n0) : ∀ {t : Tr} {b : Nat}, NodeUp n0 w t b → NodeUp n0 w' t b := by
  intro t
  induction t with
  | lf => intro b h; exact ⟨h.1, (hg.block b (lt_of_block h.2) (fun e => by injection e with e; have := h.1; omega)).trans h.2⟩
  | nd l r ihl ihr =>
    intro b h
    obtain ⟨hn, bl, br, h, h1, h2⟩ := h
    exact ⟨hn, bl, br, (hg.block b (lt_of_block h) (fun e => by injection e with e; omega)).trans h, ihl h1, ihr h2⟩
theorem NodeUp.mono {n0 n1 : Nat} (hn : n1 ≤ n0) {w : World} : ∀ {t : Tr} {b : Nat}, NodeUp n0 w t b → NodeUp n1 w t b := by
  intro t
  induction t with
  | lf => intro b h; exact ⟨by have := h.1; omega, h.2⟩
  | nd l r ihl ihr => intro b h; obtain ⟨hk, bl, br, h, h1, h2⟩ := h; exact ⟨by omega, bl, br, h, ihl h1, ihr h2⟩
theorem NodeUp.keepB {n0 : Nat} {w w' : World} (hb : Below w.heap.size w w') : ∀ {t : Tr} {b : Nat}, NodeUp n0 w t b → NodeUp n0 w' t b := by
  intro t
  induction t with
  | lf => intro b h; exact ⟨h.1, (hb.block b (lt_of_block h.2)).trans h.2⟩
  | nd l r ihl ihr =>
    intro b h
    obtain ⟨hn, bl, br, h, h1, h2⟩ := h
    exact ⟨hn, bl, br, (hb.block b (lt_of_block h)).trans h, ihl h1, ihr h2⟩

set_option maxRecDepth 100000 in
theorem inFront_any (b m c r : Nat) (w : World) (h : WkAt w b m c r) (hm : m ≤ 18) (hc : c ≤ 8) :
    Calls Try.prog 146 #[.pointer (some ⟨b, 0, none⟩)] w (Quietly (.int .i64 (frontN m c)) w) := by
  obtain ⟨h0, h1, h2, h3, h4, h5⟩ := h.cells
  unfold frontN
  by_cases hz : c = 0
  · subst hz
    rw [if_pos rfl]
    clear h
    go_enter Try.func146, Try.ntmps146
    go_wp2_with fail
    go_ret
    exact ⟨rfl, 0, rfl⟩
  · rw [if_neg hz]
    obtain ⟨d, rfl⟩ : ∃ d, c = d + 1 := ⟨c - 1, by omega⟩
    rw [Nat.add_sub_cancel]
    have hL : ∀ w, Calls Try.prog 126 #[.int .i64 ((m : Int) + 1), .int .i64 (d : Int)] w fun e w' => e = .returned (.int .i64 (listsN (m + 1) d)) ∧ w = w' := fun w => countLists_any (m + 1) d w (by omega) (by omega) (by omega)
    have e1 : IntKind.i64.wrap ((m : Int) + 1) = (m : Int) + 1 := by rw [IntKind.wrap_i64] <;> omega
    have e2 : IntKind.i64.wrap (d : Int) = (d : Int) := by rw [IntKind.wrap_i64] <;> omega
    have e3 : IntKind.i64.wrap ((d : Int) + 1 - 1) = ((d : Nat) : Int) := by rw [IntKind.wrap_i64] <;> omega
    have ez : ((d : Int) + 1 == 0) = false := by rw [beq_eq_false_iff_ne]; omega
    clear h hz
    go_enter Try.func146, Try.ntmps146
    go_wp2_with fail
    go_quiet ((go_at_call 126; exact quiet_eq (hL _)))
    go_wp2_with fail
    go_ret
    exact ⟨rfl, _, rfl⟩

/-- A step of a walk: nothing else turns. -/
def Steps (b m c r : Nat) (w : World) (e : Ending) (w' : World) : Prop := (∃ v, e = .returned v) ∧ WkAt w' b m c r ∧ w.grownBy w' (some b)
set_option maxRecDepth 100000 in
theorem passLeaf_any (b m c r : Nat) (w : World) (h : WkAt w b (m + 1) c r) (hm : m ≤ 18) :
    Calls Try.prog 147 #[.pointer (some ⟨b, 0, none⟩)] w (Steps b m c r w) := by
  obtain ⟨h0, h1, h2, h3, h4, h5⟩ := h.cells
  have H := Lib.hid h
  clear h
  go_enter Try.func147, Try.ntmps147
  go_wp2_with fail
  go_end0
  exact ⟨⟨_, rfl⟩, H.out.set0 m, grown_set _ _ _ _⟩
set_option maxRecDepth 100000 in
theorem passCaret_any (b m c r : Nat) (w : World) (h : WkAt w b m (c + 1) r) (hm : m ≤ 18) (hc : c ≤ 18) :
    Calls Try.prog 148 #[.pointer (some ⟨b, 0, none⟩)] w (Steps b (m + 1) c r w) := by
  obtain ⟨h0, h1, h2, h3, h4, h5⟩ := h.cells
  have H := Lib.hid h
  have hc2 : (w.setCell ⟨b, 0, none⟩ (.int .i64 ((m : Int) + 1))).cell? ⟨b, 1, none⟩ = some (.int .i64 ((c + 1 : Nat) : Int)) := ((h.set0 (m + 1)).cells).2.1
  clear h
  go_enter Try.func148, Try.ntmps148
  go_wp2_with fail
  go_end0
  exact ⟨⟨_, rfl⟩, (H.out.set0 (m + 1)).set1 c, grownT (grown_set _ _ _ _) (grown_set _ _ _ _)⟩

def NextOk (b m c r : Nat) (t : Tr) (w : World) (e : Ending) (w' : World) : Prop :=
  ∃ g : Nat, e = .returned (.pointer (some ⟨g, 0, none⟩)) ∧ NodeUp w.heap.size w' t g ∧ WkAt w' b m c r ∧ w.grownBy w' (some b)

theorem lists_small0 : ∀ c, c ≤ 8 → ∀ m, m ≤ 18 → 2 * c + m ≤ 18 → listsN m c ≤ 8000 := by decide
theorem lists_small (m c : Nat) (h : c ≤ 8) (k : 2 * c + m ≤ 18) : listsN m c ≤ 8000 := lists_small0 c h m (by omega) k
set_option maxRecDepth 100000 in
set_option maxHeartbeats 4000000 in
theorem next_any (k : Nat) : ∀ (b m c r : Nat) (us : List Tr) (w : World), WkAt w b m c r → 2 * c + m ≤ k → 1 ≤ m → c ≤ 8 → 2 * c + m ≤ 18 → r ≤ 8000 → (enum m c)[r]? = some us →
    Calls Try.prog 127 #[.pointer (some ⟨b, 0, none⟩)] w (NextOk b (nextF k m c r).2.1 (nextF k m c r).2.2.1 (nextF k m c r).2.2.2 (nextF k m c r).1 w) := by
  induction k with
  | zero => intro b m c r us w h hk h1; omega
  | succ k ih =>
    intro b m c r us w h hk h1 h8 h18 hr hget
    obtain ⟨c0, c1, c2, f0, f1, f2⟩ := h.cells
    have hbl := lt_of_block h
    rw [nextF]
    by_cases hf : frontN m c ≤ r
    · rw [if_pos hf]
      obtain ⟨m', rfl⟩ : ∃ m', m = m' + 1 := ⟨m - 1, by omega⟩
      rw [Nat.add_sub_cancel]
      have hI := fun w (h : WkAt w b (m' + 1) c r) => inFront_any b (m' + 1) c r w h (by omega) h8
      obtain ⟨F, hF⟩ : ∃ F, F = frontN (m' + 1) c := ⟨_, rfl⟩
      rw [← hF] at hf ⊢
      simp only [← hF] at hI
      obtain ⟨s, rfl⟩ : ∃ s, r = F + s := ⟨r - F, by omega⟩
      have es : F + s - F = s := by omega
      rw [es]
      have H := Lib.hid h
      have hB := Below.refl w.heap.size w
      clear h hget hF es ih
      go_enter Try.func127, Try.ntmps127
      go_wp2_with fail
      refine (hI _ H.out).mono ?_; rintro e w1 ⟨rfl, d1, rfl⟩
      have hs : WkAt ((w.drewN d1).setCell ⟨b, 2, none⟩ (.int .i64 s)) b (m' + 1) c s := WkAt.set2 (w := w.drewN d1) H.out s
      have hg1 : w.grownBy ((w.drewN d1).setCell ⟨b, 2, none⟩ (.int .i64 s)) (some b) := grownD (grown_set (w.drewN d1) b 2 _)
      have HS := Lib.hid hs
      have ef : (F : Int) + (s : Int) - (F : Int) = (s : Int) := by omega
      clear hs
      go_wp2_with fail
      refine (passLeaf_any b m' c s _ HS.out (by omega)).mono ?_; rintro e w3 ⟨⟨v, rfl⟩, hk3, hg3⟩
      have hg13 := grownT hg1 hg3
      have hb4 := nxAlloc (Below.refl w3.heap.size w3) (.cells #[.pointer none, .pointer none] 68 (0, 0))
      have HK := Lib.hid (hk3.keep hb4)
      have hsz := hg13.size
      have HG := Lib.hid (grownB hg13 hb4)
      clear hk3 hg3 hg1 hg13 HS hb4
      go_wp2_with fail
      go_ret
      exact ⟨_, rfl, ⟨hsz, heap_alloc_at _ _⟩, HK.out, HG.out⟩
    · rw [if_neg hf]
      have hc0 : c ≠ 0 := by
        intro e; apply hf; unfold frontN; rw [if_pos e]; exact Nat.zero_le _
      obtain ⟨c', rfl⟩ : ∃ c', c = c' + 1 := ⟨c - 1, by omega⟩
      rw [Nat.add_sub_cancel]
      have hfl : (enum (m + 1) c').length = frontN m (c' + 1) := by
        have := front_length (m := m) (c := c' + 1) h8 h18
        rw [if_neg (by omega), List.length_map, Nat.add_sub_cancel] at this
        exact this
      have hget1 : ∃ us1, (enum (m + 1) c')[r]? = some us1 := ⟨_, List.getElem?_eq_getElem (by omega)⟩
      obtain ⟨us1, hget1⟩ := hget1
      obtain ⟨ts, hu, hn1, hn2, hn3⟩ := nextF_get k (m + 1) c' r us1 (by omega) (by omega) (by omega) (by omega) hget1
      rw [Nat.add_sub_cancel] at hn3
      have ih1 := fun w h => ih b (m + 1) c' r us1 w h (by omega) (by omega) (by omega) (by omega) hr hget1
      obtain ⟨X, hX⟩ : ∃ X, X = nextF k (m + 1) c' r := ⟨_, rfl⟩
      rw [← hX] at hn1 hn2 hn3 ⊢
      simp only [← hX] at ih1
      obtain ⟨t1, m1, c1, r1⟩ := X
      simp only at hn1 hn2 hn3 ih1 ⊢
      obtain rfl : m1 = m := by omega
      have hr1 : r1 ≤ 8000 := by
        have h9 := (List.getElem?_eq_some_iff.1 hn3).1
        rw [enum_length (by omega) (by omega) h1] at h9
        have h10 : listsN m1 c1 ≤ 8000 := lists_small m1 c1 (by omega) (by omega)
        omega
      have ih2 := fun w h => ih b m1 c1 r1 ts w h (by omega) h1 (by omega) (by omega) hr1 hn3
      obtain ⟨Y, hY⟩ : ∃ Y, Y = nextF k m1 c1 r1 := ⟨_, rfl⟩
      rw [← hY]
      simp only [← hY] at ih2
      obtain ⟨t2, m2, c2', r2⟩ := Y
      simp only at ih2 ⊢
      have hI := fun w (h : WkAt w b m1 (c' + 1) r) => inFront_any b m1 (c' + 1) r w h (by omega) h8
      obtain ⟨F, hF⟩ : ∃ F, F = frontN m1 (c' + 1) := ⟨_, rfl⟩
      rw [← hF] at hf
      simp only [← hF] at hI
      have hf' : (r : Int) < (F : Int) := by omega
      have HI1 := Lib.hid ih1
      have HI2 := Lib.hid ih2
      have H := Lib.hid h
      clear h hget hF hf ih hget1 hu hn1 hn2 hn3 hX hY hfl ih1 ih2 hc0
      go_enter Try.func127, Try.ntmps127
      go_wp2_with fail
      refine (hI _ H.out).mono ?_; rintro e w1 ⟨rfl, d1, rfl⟩
      go_wp2_with fail
      refine (passCaret_any b m1 c' r (w.drewN d1) H.out (by omega) (by omega)).mono ?_; rintro e w2 ⟨⟨v, rfl⟩, hk2, hg2⟩
      have hg2' : w.grownBy w2 (some b) := grownD hg2
      have hs2 := hg2'.size
      clear hg2
      go_wp2_with fail
      refine (HI1.out _ hk2).mono ?_; rintro e w3 ⟨gl, rfl, hl3, hk3, hg3⟩
      have hs3 := hg3.size
      clear hk2
      go_wp2_with fail
      refine (HI2.out _ hk3).mono ?_; rintro e w4 ⟨gr, rfl, hr4, hk4, hg4⟩
      have hl4 := hl3.kept hg4 (by omega)
      have hs4 := hg4.size
      have hb5 := nxAlloc (Below.refl w4.heap.size w4) (.cells #[.pointer (some ⟨gl, 0, none⟩), .pointer (some ⟨gr, 0, none⟩)] 68 (0, 0))
      have HL := Lib.hid ((hl4.keepB hb5).mono (show w.heap.size ≤ w2.heap.size by omega))
      have HR := Lib.hid ((hr4.keepB hb5).mono (show w.heap.size ≤ w3.heap.size by omega))
      have HK := Lib.hid (hk4.keep hb5)
      have HG := Lib.hid (grownB (grownT (grownT hg2' hg3) hg4) hb5)
      clear hk3 hg3 hg4 hl3 hl4 hr4 hk4 hb5 hg2'
      go_wp2_with fail
      go_ret
      exact ⟨_, rfl, ⟨by omega, gl, gr, heap_alloc_at _ _, HL.out, HR.out⟩, HK.out, HG.out⟩
end Go.Proofs.Ytkpganpojdboeaa

/-! WTreeAt -/
namespace Go.Proofs.Ytkpganpojdboeaa
open Go.RowKit

def TreeAt_o (n r : Int) : Option Tr := if 0 ≤ n ∧ n ≤ 8 then if 0 ≤ r ∧ r < (catN n.toNat : Nat) then some (treeAt n.toNat r.toNat) else none else none
theorem treeAt_carets {n r : Nat} (hn : n ≤ 8) (hr : r < listsN 1 n) : (treeAt n r).carets = n := (mem_treesN n _).1 (List.mem_of_getElem? (treesN_get n r hn hr))
end Go.Proofs.Ytkpganpojdboeaa

/-! WAllTrees -/
namespace Go.Proofs.Ytkpganpojdboeaa
open Go.RowKit

theorem ownsRow_far {w w2 : World} {base : Nat} {e : TypeId} {size : Nat} {v : Value} {n : Nat} {xs : List Value} {o : Obj} (h : w.ownsRow base e size v n xs) (hg : (w.alloc o).grownBy w2 (some w.heap.size)) : w2.ownsRow base e size v n xs := by
  obtain ⟨h1, h2⟩ := h
  refine ⟨h1, ?_⟩
  rcases h2 with h2 | ⟨g, cap, cur, hv, hb, hh, r⟩
  · exact .inl h2
  · have hl := lt_of_block hh
    refine .inr ⟨g, cap, cur, hv, hb, ?_, r⟩
    rw [hg.block g (by simp; omega) (fun e => by injection e with e; omega), (World.grownBy_alloc w o none).block g hl (fun e => by cases e)]
    exact hh
def AllTrees_o (n : Int) : Option (List ByteArray) := if 0 ≤ n ∧ n ≤ 5 then some (trTexts n.toNat) else none
theorem AllTrees_len (n : Int) : ((AllTrees_o n).getD []).length ≤ 1000000000 := by
  unfold AllTrees_o
  split
  · next h =>
    have := treesN_small n.toNat (by omega)
    simp [trTexts]; omega
  · simp
/-- The first trees of a list, by their ranks. -/
def firstT (k q : Nat) : List ByteArray := (List.range q).map fun r => (treeAt k r).str
theorem firstT_succ (k q : Nat) : firstT k (q + 1) = firstT k q ++ [(treeAt k q).str] := by simp [firstT, List.range_succ]
theorem firstT_all (k : Nat) (h : k ≤ 8) : firstT k (listsN 1 k) = trTexts k := by
  unfold firstT trTexts
  rw [treesN_eq k h, List.map_map]; rfl

set_option maxRecDepth 100000 in
set_option maxHeartbeats 2000000 in
theorem implAllTrees_any (n : Int) (w : World) (lo0 : -9223372036854775808 ≤ n) (hi0 : n ≤ 9223372036854775807) :
    Calls Try.prog 100 #[.int .i64 n] w (AnsSs (AllTrees_o n) w) := by
  obtain ⟨i0, hi, hz0, hz1, hz2⟩ := info_parts info_str
  unfold AllTrees_o
  by_cases h0 : n < 0
  · rw [if_neg (by omega)]
    have hd1 : decide (n < 0) = true := by simpa using h0
    clear h0
    go_enter Try.func100, Try.ntmps100
    go_wp2_with fail
    go_ret2
    exact ⟨_, OwnS.nil _ _, Below.refl _ _, rfl⟩
  · have hd1 : decide (n < 0) = false := by simpa using h0
    by_cases h5 : 5 < n
    · rw [if_neg (by omega)]
      clear h0
      go_enter Try.func100, Try.ntmps100
      go_wp2_with fail
      go_ret2
      exact ⟨_, OwnS.nil _ _, Below.refl _ _, rfl⟩
    · rw [if_pos (by omega)]
      obtain ⟨k, rfl⟩ : ∃ k : Nat, n = k := ⟨n.toNat, by omega⟩
      rw [Int.toNat_natCast]
      have h5' : k ≤ 5 := by omega
      have hC := fun w => countLists_any 1 k w (by omega) (by omega) (by omega)
      obtain ⟨M, hM⟩ : ∃ M, M = listsN 1 k := ⟨_, rfl⟩
      have hM8 : M ≤ 8000 := by rw [hM]; exact lists_small 1 k (by omega) (by omega)
      have hN : ∀ q, q < M → ∀ b w, WkAt w b 1 k q → Calls Try.prog 127 #[.pointer (some ⟨b, 0, none⟩)] w (NextOk b (nextF (2 * k + 1) 1 k q).2.1 (nextF (2 * k + 1) 1 k q).2.2.1 (nextF (2 * k + 1) 1 k q).2.2.2 (treeAt k q) w) := by
        intro q hq b w h
        obtain ⟨us, hget⟩ : ∃ us, (enum 1 k)[q]? = some us := ⟨_, List.getElem?_eq_getElem (by rw [enum_length (by omega) (by omega) (by omega), ← hM]; exact hq)⟩
        exact next_any (2 * k + 1) b 1 k q us w h (Nat.le_refl _) (Nat.le_refl _) (by omega) (by omega) (by omega) hget
      have hcar : ∀ q, q < M → (treeAt k q).carets = k := fun q hq => treeAt_carets (by omega) (by rw [← hM]; exact hq)
      have hend := firstT_all k (by omega)
      rw [← hM] at hend hC
      have HN := Lib.hid hN
      have HC := Lib.hid hcar
      have HE := Lib.hid hend
      clear hN hcar hend hM h0
      go_enter Try.func100, Try.ntmps100
      go_wp2_with fail
      refine (hC _).mono ?_; rintro e w1 ⟨rfl, rfl⟩
      clear hC
      go_wp2_with fail
      go_loopw [4, 15] (fun v i wr => ∃ (q : Nat) (xs : List ByteArray), i = .int .i64 q ∧ q ≤ M ∧ OwnS w.heap.size wr v xs ∧ xs.length = q ∧ Below w.heap.size w wr ∧ Hid (xs = firstT k q)) (fun _ i _ => M - (intOf i).toNat)
      case atStart => exact ⟨0, [], rfl, Nat.zero_le _, OwnS.nil _ _, rfl, Below.refl _ _, rfl⟩
      case round =>
        obtain ⟨q, xs, rfl, hq, hown, hxl, hbw, he⟩ := hrel
        by_cases hlt : q < M
        · have hlt' : (q : Int) < (M : Int) := by omega
          have hN := HN.out q hlt
          have hcar := HC.out q hlt
          have hstep := firstT_succ k q
          rw [← he.out] at hstep
          generalize treeAt k q = T at *
          have HS := Lib.hid hstep
          have HT := Lib.hid hcar
          have HNq := Lib.hid hN
          have HX := Lib.hid hxl
          clear hstep hcar hN he
          go_wp2_with fail
          have hk : WkAt (wr.alloc (.cells #[.int .i64 1, .int .i64 k, .int .i64 q] 124 (0, 0))) wr.heap.size 1 k q := heap_alloc_at _ _
          have hb2 := nxAlloc hbw (.cells #[.int .i64 1, .int .i64 k, .int .i64 q] 124 (0, 0))
          have ho2 := hown.keep (nxAlloc (Below.refl wr.heap.size wr) (.cells #[.int .i64 1, .int .i64 k, .int .i64 q] 124 (0, 0)))
          have hs1 := hbw.size
          refine (HNq.out _ _ hk).mono ?_; rintro e w2 ⟨g, rfl, hu, _, hg⟩
          have hb3 : Below w.heap.size w w2 := Below.grown hb2 hg hb2.size (fun j hj => by injection hj with hj; omega)
          have ho3 : OwnS w.heap.size w2 _ xs := ownsRow_far hown hg
          have hT := fun w h => text_any T g w h (by rw [HT.out]; omega)
          have HU := Lib.hid hu.at
          have hts : T.str.size ≤ 100 := by have := T.str_size; have := HT.out; omega
          clear hk hb2 hg hu ho2 hown hbw
          go_wp2_with fail
          refine (hT _ HU.out).mono ?_; rintro e w3 ⟨rfl, d3, rfl⟩
          have hb4 := drewB hb3 d3
          have ho4 : World.ownsRow (w2.drewN d3) w.heap.size 9 1 _ xs.length (xs.map Value.string) := ho3
          clear ho3 hb3
          go_wp2_with (at_builtin; refine wpList_append_own _ rfl _ _ 99 rfl w.heap.size 9 i0 (.string ⟨#[]⟩) 1 16 Try.underlying99 hi hz0 hz1 hz2 rfl (by decide) _ _ _ rfl (ho4.alloc _) ⟨(w2.drewN d3).heap.size, 0, none⟩ 1 1 [.string T.str] rfl rfl (new1 _ _ _) (oneS1 _) (by unfold maxLen; omega) (by omega) (size_al hb4 _) ?_; intro v' w9 hown' hgrow hnn)
          have hbw' := below_app hb4 ho4 (Nat.le_refl _) hgrow
          have hown1 := OwnS.snoc hown'
          clear hown' ho4 hgrow hnn hb4
          go_wp2_with fail
          go_roundw
          case rel => exact ⟨q + 1, _, by go_num, by omega, hown1, by have := HX.out; simp; omega, hbw', HS.out.symm⟩
          case measure => simp [intOf]; omega
        · obtain rfl : q = M := by omega
          have hx := he.out
          rw [HE.out] at hx
          have HX := Lib.hid hx
          clear he hx
          go_wp2_with fail
          go_ret2
          exact ⟨_, by rw [show (some (trTexts k)).getD [] = xs by rw [HX.out]; rfl]; exact hown, hbw, rfl⟩

end Go.Proofs.Ytkpganpojdboeaa

/-! Form -/
namespace Go.Proofs.Ytkpganpojdboeaa
open Go.RowKit

theorem CellsI.form {b1 : Nat} {w : World} {v : Value} {xs : List Int} (h : CellsI b1 w v xs) :
    ∃ oa cap, v = .slice oa xs.length cap ∧ xs.length ≤ cap ∧ cap ≤ maxLen ∧ ∀ i, i < xs.length → ∃ g, oa = some ⟨g, 0, none⟩ ∧ b1 ≤ g ∧ g < w.heap.size ∧ w.cell? ⟨g, i, none⟩ = some (.int .i64 (xs.getD i 0)) := by
  rcases h with ⟨rfl, rfl⟩ | ⟨g, cap, rfl, h1, h2, h3, h4, h5, _⟩
  · exact ⟨none, 0, rfl, Nat.le_refl _, Nat.zero_le _, fun i hi => by simp at hi⟩
  · exact ⟨some ⟨g, 0, none⟩, cap, rfl, h3, h4, fun i hi => ⟨g, rfl, h1, h2, h5 i hi⟩⟩

end Go.Proofs.Ytkpganpojdboeaa

/-! Prefix -/
namespace Go.Proofs.Ytkpganpojdboeaa
open Go.RowKit

theorem take_eq_of_short {l p : List UInt8} (h : l.length < p.length) : (l.take p.length == p) = false := by
  rw [beq_eq_false_iff_ne]
  intro e
  have := congrArg List.length e
  simp at this
  omega

set_option linter.unusedVariables false in
theorem hasPrefixL_any (s p : ByteArray) (w : World) (hs : s.size ≤ 9223372036854775806) (hp : p.size ≤ 9223372036854775806) :
    Calls Try.prog 154 #[.string s, .string p] w fun e w' => e = .returned (.bool (s.data.toList.take p.size == p.data.toList)) ∧ w = w' := by
  by_cases h : (p.size : Int) ≤ s.size
  · go_enter Try.func154, Try.ntmps154
    go_wp2
    go_ret
    refine ⟨ret_bool ?_, rfl⟩
    rw [Lib.extract_toList, Lib.toList_data]; simp
  · have hf : (s.data.toList.take p.size == p.data.toList) = false := by
      rw [Lib.size_eq p]; exact take_eq_of_short (by rw [← Lib.size_eq, ← Lib.size_eq]; omega)
    rw [hf]
    clear hf
    go_enter Try.func154, Try.ntmps154
    go_wp2
    go_ret
    exact ⟨rfl, rfl⟩

theorem hasPrefixS_any (s p : ByteArray) (w : World) (hs : s.size ≤ 9223372036854775806) (hp : p.size ≤ 9223372036854775806) :
    Calls Try.prog 143 #[.string s, .string p] w fun e w' => e = .returned (.bool (s.data.toList.take p.size == p.data.toList)) ∧ w = w' := by
  go_enter Try.func143, Try.ntmps143
  go_wp2_with fail
  refine (hasPrefixL_any s p _ hs hp).mono ?_; rintro e w1 ⟨rfl, rfl⟩
  go_wp2_with fail
  go_ret
  exact ⟨rfl, rfl⟩

end Go.Proofs.Ytkpganpojdboeaa

/-! Leaf -/
namespace Go.Proofs.Ytkpganpojdboeaa
open Go.RowKit

theorem posFrom_dot {s : ByteArray} {k : Nat} {off : Nat} {n : Int} (h : k < s.size) (hb : (((s[k]'h).toNat : Int) == 46) = true) :
    posFrom (s.data.toList.drop k) off n = if n = 0 then (off : Int) else posFrom (s.data.toList.drop (k + 1)) (off + 1) (n - 1) := by
  obtain ⟨c, r, hd, hc, hr⟩ := drop_of_byteAt h
  have h1 : byteAt s k = (s[k]'h).toNat := byteAt_eq s k h
  have : c = 46 := u8_eq (n := 46) (by omega) (by rw [← hc, h1]; simpa using hb)
  rw [hd, posFrom, if_pos this, hr]
theorem posFrom_other {s : ByteArray} {k : Nat} {off : Nat} {n : Int} (h : k < s.size) (hb : (((s[k]'h).toNat : Int) == 46) = false) :
    posFrom (s.data.toList.drop k) off n = posFrom (s.data.toList.drop (k + 1)) (off + 1) n := by
  obtain ⟨c, r, hd, hc, hr⟩ := drop_of_byteAt h
  have h1 : byteAt s k = (s[k]'h).toNat := byteAt_eq s k h
  have : ¬ c = 46 := fun e => by
    have : (((s[k]'h).toNat : Int)) = 46 := by rw [← h1, hc, e]; rfl
    simp [this] at hb
  rw [hd, posFrom, if_neg this, hr]
theorem posFrom_end {s : ByteArray} {off : Nat} {n : Int} : posFrom (s.data.toList.drop s.size) off n = -1 := by
  rw [List.drop_of_length_le (by rw [Lib.size_eq]; exact Nat.le_refl _)]; rfl

set_option maxRecDepth 100000 in
set_option maxHeartbeats 1000000 in
theorem leafPlace_any (s : ByteArray) (n : Int) (w : World) (hs : s.size ≤ 9223372036854775806) (hn : 0 ≤ n) (hn' : n ≤ 9223372036854775807) :
    Calls Try.prog 142 #[.string s, .int .i64 n] w (Quietly (.int .i64 (posFrom s.data.toList 0 n)) w) := by
  go_enter Try.func142, Try.ntmps142
  go_wp2_with fail
  go_loopw [1, 8] (fun v i wr => ∃ (k : Nat) (m : Int) (d : Nat), k ≤ s.size ∧ i = .int .i64 k ∧ v = .int .i64 m ∧ 0 ≤ m ∧ m ≤ 9223372036854775807 ∧ wr = w.drewN d ∧ Hid (posFrom s.data.toList 0 n = posFrom (s.data.toList.drop k) k m)) (fun _ i _ => s.size - (intOf i).toNat)
  case atStart => exact ⟨0, n, 0, Nat.zero_le _, rfl, rfl, hn, hn', rfl, rfl⟩
  case round =>
    obtain ⟨k, m, d, hk, rfl, rfl, hm, hm', rfl, he⟩ := hrel
    by_cases hlt : k < s.size
    · cases h46 : (((s[k]'hlt).toNat : Int) == 46) with
      | true =>
        have h46' : Hid ((((s[k]'hlt).toNat : Int) != 46) = false) := by show (_ != _) = false; rw [bne, h46]; rfl
        have hp := posFrom_dot (off := k) (n := m) hlt h46
        have HP := Lib.hid hp
        clear hp h46
        by_cases hm0 : m = 0
        · have g0 : (m == 0) = true := by simp [hm0]
          have HM := Lib.hid hm0
          clear hm0
          go_wp2_with fail
          have g := h46'.out
          have gz : ((⟨#[46]⟩ : ByteArray)[0]'(by decide)).toNat = 46 := rfl
          go_quiet (fail)
          go_wp2_with fail
          go_ret
          exact ⟨ret_int (by rw [he.out, HP.out, if_pos HM.out]), _, rfl⟩
        · have g0 : (m == 0) = false := by simp [hm0]
          have hm1 : 1 ≤ m := by omega
          have HM := Lib.hid hm0
          clear hm0
          go_wp2_with fail
          have g := h46'.out
          have gz : ((⟨#[46]⟩ : ByteArray)[0]'(by decide)).toNat = 46 := rfl
          go_quiet (fail)
          go_wp2_with fail
          clear g gz
          go_roundw
          case rel => exact ⟨k + 1, m - 1, _, by omega, by go_num, rfl, by omega, by omega, rfl, by show _ = _; rw [he.out, HP.out, if_neg HM.out]⟩
          case measure => simp [intOf]; omega
      | false =>
        have h46' : Hid ((((s[k]'hlt).toNat : Int) != 46) = true) := by show (_ != _) = true; rw [bne, h46]; rfl
        have hp := posFrom_other (off := k) (n := m) hlt h46
        have HP := Lib.hid hp
        clear hp h46
        go_wp2_with fail
        have g := h46'.out
        have gz : ((⟨#[46]⟩ : ByteArray)[0]'(by decide)).toNat = 46 := rfl
        go_quiet (fail)
        go_wp2_with fail
        clear g gz
        go_roundw
        case rel => exact ⟨k + 1, m, _, by omega, by go_num, rfl, by omega, by omega, rfl, by show _ = _; rw [he.out, HP.out]⟩
        case measure => simp [intOf]; omega
    · obtain rfl : k = s.size := by omega
      go_wp2_with fail
      go_ret
      exact ⟨ret_int (by rw [he.out, posFrom_end]), _, rfl⟩

set_option maxRecDepth 100000 in
set_option maxHeartbeats 1000000 in
theorem trGraft_any (s o : ByteArray) (n : Int) (w : World) (hs : s.size ≤ 1000) (ho : o.size ≤ 1000) (hn : 0 ≤ n) (hn' : n ≤ 9223372036854775807) (hp : 0 ≤ posFrom s.data.toList 0 n) :
    Calls Try.prog 131 #[.string s, .int .i64 n, .string o] w (Gives (.string (graftS s n o)) w) := by
  have HP0 := Lib.hid hp
  clear hp
  go_enter Try.func131, Try.ntmps131
  go_wp2_with fail
  go_loopw [7, 8] (fun v i wr => ∃ (k : Nat) (c : Int), k ≤ s.size ∧ i = .int .i64 k ∧ v = .int .i64 c ∧ -1 ≤ c ∧ c < n ∧ wr = w ∧ Hid (posFrom s.data.toList 0 n = posFrom (s.data.toList.drop k) k (n - (c + 1)))) (fun _ i _ => s.size - (intOf i).toNat)
  case atStart => exact ⟨0, -1, Nat.zero_le _, rfl, rfl, by omega, by omega, rfl, by show _ = _; simp⟩
  case round =>
    obtain ⟨k, c, hk, rfl, rfl, hc1, hc2, rfl, he⟩ := hrel
    by_cases hlt : k < s.size
    · cases h46 : (((s[k]'hlt).toNat : Int) == 46) with
      | true =>
        have hp := posFrom_dot (off := k) (n := n - (c + 1)) hlt h46
        have HP := Lib.hid hp
        have H46 := Lib.hid h46
        clear hp h46
        by_cases hm0 : c + 1 = n
        · have g0 : (c + 1 == n) = true := by simp [hm0]
          have hpos : Hid ((posFrom s.data.toList 0 n).toNat = k) := by
            show _ = _
            rw [he.out, HP.out, if_pos (by omega)]; rfl
          have HM := Lib.hid hm0
          clear hm0
          have g := H46.out
          go_wp2_with fail
          clear g g0
          go_region
          all_goals (try go_wp2_with fail)
          all_goals go_ret
          exact ⟨ret_str (by unfold graftS; rw [hpos.out]), (Below.refl _ _).drew⟩
        · have g0 : (c + 1 == n) = false := by simp [hm0]
          have HM := Lib.hid hm0
          have hlt2 : c + 1 < n := by omega
          clear hm0
          have g := H46.out
          go_wp2_with fail
          clear g g0
          go_roundw
          case rel => exact ⟨k + 1, c + 1, by omega, by go_num, rfl, by omega, by omega, trivial, by show _ = _; rw [he.out, HP.out, if_neg (by omega)]; congr 1; omega⟩
          case measure => simp [intOf]; omega
      | false =>
        have hp := posFrom_other (off := k) (n := n - (c + 1)) hlt h46
        have HP := Lib.hid hp
        have H46 := Lib.hid h46
        clear hp h46
        have g0 : (c == n) = false := by simp; omega
        have g := H46.out
        go_wp2_with fail
        clear g g0
        go_roundw
        case rel => exact ⟨k + 1, c, by omega, by go_num, rfl, by omega, by omega, trivial, by show _ = _; rw [he.out, HP.out]⟩
        case measure => simp [intOf]; omega
    · obtain rfl : k = s.size := by omega
      exfalso
      have h1 := he.out
      rw [posFrom_end] at h1
      have := HP0.out
      omega

end Go.Proofs.Ytkpganpojdboeaa

/-! ImplExp -/
namespace Go.Proofs.Ytkpganpojdboeaa
open Go.RowKit

/-- A call that hands back a slice of integers of its own, and true. -/
def IntsOk (xs : List Int) (w : World) (e : Ending) (w' : World) : Prop :=
  ∃ v, OwnI w.heap.size w' v xs ∧ Below w.heap.size w w' ∧ e = .returned (.tuple #[v, .bool true])

theorem expB_from (s : ByteArray) (k : Nat) : ((s.extract k s.size).data.toList.take (ByteArray.mk #[40, 46, 46, 41]).size == (ByteArray.mk #[40, 46, 46, 41]).data.toList) = expB (s.data.toList.drop k) := by
  unfold expB
  rw [ext_end]
  rfl

set_option maxRecDepth 100000 in
set_option maxHeartbeats 2000000 in
theorem exposedIn_any (s : ByteArray) (w : World) (hs : s.size ≤ 1000) :
    Calls Try.prog 141 #[.string s] w (GivesInts (exL s.data.toList 0) w) := by
  obtain ⟨i0, hi, hz0, hz1, hz2⟩ := info_parts info_int
  go_enter Try.func141, Try.ntmps141
  go_wp2_with fail
  go_loopw [3, 4, 8] (fun v n i wr => ∃ (k : Nat) (m : Int) (xs : List Int), k ≤ s.size ∧ 0 ≤ m ∧ m ≤ k ∧ i = .int .i64 k ∧ n = .int .i64 m ∧ xs.length ≤ k ∧ OwnI w.heap.size wr v xs ∧ Below w.heap.size w wr ∧ Hid (exL s.data.toList 0 = xs ++ exL (s.data.toList.drop k) m)) (fun _ _ i _ => s.size - (intOf i).toNat)
  case atStart => exact ⟨0, 0, [], Nat.zero_le _, by omega, by omega, rfl, rfl, Nat.le_refl _, OwnI.nil _ _, Below.refl _ _, rfl⟩
  case round =>
    obtain ⟨k, m, xs, hk, hm0, hm1, rfl, rfl, hxl, hown, hbw, he⟩ := hrel
    by_cases hlt : k < s.size
    · obtain ⟨c, r, hd, hb, hr⟩ := drop_of_byteAt hlt
      have hx : ((s[k]'hlt).toNat : Int) = (c.toNat : Int) := by rw [← hb]; exact (byteAt_eq s k hlt).symm
      have h46 : (((s[k]'hlt).toNat : Int) == 46) = decide (c = 46) := by
        rw [hx, Bool.eq_iff_iff]
        simp only [beq_iff_eq, decide_eq_true_eq]
        exact ⟨fun e => u8_eq (n := 46) (by omega) e, fun e => by rw [e]; rfl⟩
      have hstep : exL (s.data.toList.drop k) m = (if expB (s.data.toList.drop k) = true then [m] else []) ++ exL (s.data.toList.drop (k + 1)) (if c = 46 then m + 1 else m) := by
        rw [hr, hd, exL]
      have H46 := Lib.hid h46
      have HS := Lib.hid hstep
      have hpc := hasPrefixS_any (s.extract k s.size) (ByteArray.mk #[40, 46, 46, 41])
      rw [expB_from] at hpc
      have hsz : (s.extract k s.size).size ≤ 9223372036854775806 := by simp; omega
      clear hd hb hr hx h46 hstep
      cases hE : expB (s.data.toList.drop k) with
      | true =>
        rw [hE] at hpc
        have HE1 := Lib.hid hE
        clear hE
        by_cases hc : c = 46
        all_goals
          have h4 := H46.out
          simp only [hc, decide_true, decide_false] at h4
          have HC := Lib.hid hc
          have H4 := Lib.hid h4
          clear hc h4
          go_wp2_with fail
          refine (hpc _ hsz (by decide)).mono ?_; rintro e wx ⟨rfl, rfl⟩
          go_wp2_with (at_builtin; refine wpList_append_own _ rfl _ _ 31 rfl w.heap.size 3 i0 (.int .i64 0) 1 8 Try.underlying31 hi hz0 hz1 hz2 rfl (by decide) _ _ _ rfl (hown.alloc _) ⟨wr.heap.size, 0, none⟩ 1 1 [.int .i64 m] rfl rfl (new1 _ _ _) (one1 _) (by unfold maxLen; omega) (by omega) (size_al hbw _) ?_; intro v' w1 hown' hgrow hnn)
          have hbw' := below_app hbw hown (Nat.le_refl _) hgrow
          have hown1 := OwnI.snoc hown'
          have he' : exL s.data.toList 0 = (xs ++ [m]) ++ exL (s.data.toList.drop (k + 1)) (if c = 46 then m + 1 else m) := by
            rw [he.out, HS.out, if_pos HE1.out, List.append_assoc]
          have HE := Lib.hid he'
          have g := H4.out
          have gz : ((⟨#[46]⟩ : ByteArray)[0]'(by decide)).toNat = 46 := rfl
          clear hown hown' hgrow hbw hnn he' he
          go_wp2_with fail
          go_quiet (fail)
          go_wp2_with fail
          clear g gz
          go_roundw
          case rel =>
            have he' := HE.out
            have hc := HC.out
            first | rw [if_pos hc] at he' | rw [if_neg hc] at he'
            exact ⟨k + 1, _, xs ++ [m], by omega, by omega, by omega, by go_num, rfl, by simp; omega, hown1.keep (drewB (Below.refl _ _) _), drewB hbw' _, he'⟩
          case measure => simp [intOf]; omega
      | false =>
        rw [hE] at hpc
        have he' : exL s.data.toList 0 = xs ++ exL (s.data.toList.drop (k + 1)) (if c = 46 then m + 1 else m) := by
          rw [he.out, HS.out, if_neg (by rw [hE]; decide), List.nil_append]
        have HE := Lib.hid he'
        clear hE he' he
        by_cases hc : c = 46
        all_goals
          have h4 := H46.out
          simp only [hc, decide_true, decide_false] at h4
          have HC := Lib.hid hc
          have H4 := Lib.hid h4
          clear hc h4
          go_wp2_with fail
          refine (hpc _ hsz (by decide)).mono ?_; rintro e wx ⟨rfl, rfl⟩
          have g := H4.out
          have gz : ((⟨#[46]⟩ : ByteArray)[0]'(by decide)).toNat = 46 := rfl
          go_wp2_with fail
          go_quiet (fail)
          go_wp2_with fail
          clear g gz
          go_roundw
          case rel =>
            have he' := HE.out
            have hc := HC.out
            first | rw [if_pos hc] at he' | rw [if_neg hc] at he'
            exact ⟨k + 1, _, xs, by omega, by omega, by omega, by go_num, rfl, by omega, hown.keep (drewB (Below.refl _ _) _), drewB hbw _, he'⟩
          case measure => simp [intOf]; omega
    · obtain rfl : k = s.size := by omega
      have hend : exL s.data.toList 0 = xs := by
        have h1 : s.data.toList.drop s.size = [] := List.drop_of_length_le (by rw [Lib.size_eq]; exact Nat.le_refl _)
        have := he.out
        rw [h1] at this
        simpa [exL] using this
      have HE := Lib.hid hend
      clear hend he
      go_wp2_with fail
      go_ret
      exact ⟨_, by rw [HE.out]; exact hown, hbw, rfl⟩

end Go.Proofs.Ytkpganpojdboeaa

/-! SpecExp -/
namespace Go.Proofs.Ytkpganpojdboeaa
open Go.RowKit

set_option maxRecDepth 100000 in
set_option maxHeartbeats 2000000 in
theorem trExposed_any (s : ByteArray) (w : World) (hs : s.size ≤ 1000) :
    Calls Try.prog 122 #[.string s] w (GivesInts (exL s.data.toList 0) w) := by
  obtain ⟨i0, hi, hz0, hz1, hz2⟩ := info_parts info_int
  go_enter Try.func122, Try.ntmps122
  go_wp2_with fail
  go_loopw [3, 4, 5] (fun v n i wr => ∃ (k : Nat) (m : Int) (xs : List Int), k ≤ s.size ∧ 0 ≤ m ∧ m ≤ k ∧ i = .int .i64 k ∧ n = .int .i64 m ∧ xs.length ≤ k ∧ OwnI w.heap.size wr v xs ∧ Below w.heap.size w wr ∧ Hid (exL s.data.toList 0 = xs ++ (pend s.data.toList k m ++ exL (s.data.toList.drop k) m))) (fun _ _ i _ => s.size - (intOf i).toNat)
  case atStart => exact ⟨0, 0, [], Nat.zero_le _, by omega, by omega, rfl, rfl, Nat.le_refl _, OwnI.nil _ _, Below.refl _ _, by show _ = _; rw [pend_zero]; rfl⟩
  case round =>
    obtain ⟨k, m, xs, hk, hm0, hm1, rfl, rfl, hxl, hown, hbw, he⟩ := hrel
    by_cases hlt : k < s.size
    · obtain ⟨c, r, hd, hb, hr⟩ := drop_of_byteAt hlt
      have hstep := exL_step (n := m) hd
      have hx : ((s[k]'hlt).toNat : Int) = (c.toNat : Int) := by rw [← hb]; exact (byteAt_eq s k hlt).symm
      have h46 : (((s[k]'hlt).toNat : Int) == 46) = decide (c = 46) := by
        rw [hx, Bool.eq_iff_iff]
        simp only [beq_iff_eq, decide_eq_true_eq]
        exact ⟨fun e => u8_eq (n := 46) (by omega) e, fun e => by rw [e]; rfl⟩
      have H46 := Lib.hid h46
      have HS := Lib.hid hstep
      clear hd hb hr hx h46 hstep
      by_cases hP : 0 < k ∧ expB (s.data.toList.drop (k - 1)) = true
      · have hpend : Hid (pend s.data.toList k m = [m]) := by show _ = _; unfold pend; rw [if_pos hP]
        obtain ⟨hk0, hE⟩ := hP
        have h1 : (0 : Int) < k := by omega
        have h2 : (k : Int) + 2 < s.size := by have := expB_drop hE; rw [← Lib.size_eq] at this; omega
        have h3 : ((s.extract (k - 1) (k + 3)).toList == [40, 46, 46, 41]) = true := by rw [← expB_extract s k hk0]; exact hE
        clear hE
        by_cases hc : c = 46
        all_goals
          have h4 := H46.out
          simp only [hc, decide_true, decide_false] at h4
          have HC := Lib.hid hc
          clear hc
          go_wp2_with (at_builtin; refine wpList_append_own _ rfl _ _ 31 rfl w.heap.size 3 i0 (.int .i64 0) 1 8 Try.underlying31 hi hz0 hz1 hz2 rfl (by decide) _ _ _ rfl (hown.alloc _) ⟨wr.heap.size, 0, none⟩ 1 1 [.int .i64 m] rfl rfl (new1 _ _ _) (one1 _) (by unfold maxLen; omega) (by omega) (size_al hbw _) ?_; intro v' w1 hown' hgrow hnn)
          have hbw' := below_app hbw hown (Nat.le_refl _) hgrow
          have hown1 := OwnI.snoc hown'
          have he' : exL s.data.toList 0 = (xs ++ [m]) ++ (pend s.data.toList (k + 1) (if c = 46 then m + 1 else m) ++ exL (s.data.toList.drop (k + 1)) (if c = 46 then m + 1 else m)) := by
            rw [he.out, HS.out, hpend.out, List.append_assoc]
          have HE := Lib.hid he'
          clear hown hown' hgrow hbw hnn he' he
          go_wp2_with fail
          go_roundw
          case rel =>
            have he' := HE.out
            have hc := HC.out
            first | rw [if_pos hc] at he' | rw [if_neg hc] at he'
            exact ⟨k + 1, _, xs ++ [m], by omega, by omega, by omega, by go_num, rfl, by simp; omega, hown1, hbw', he'⟩
          case measure => simp [intOf]; omega
      · have hpend : Hid (pend s.data.toList k m = []) := by show _ = _; unfold pend; rw [if_neg hP]
        have he' : exL s.data.toList 0 = xs ++ (pend s.data.toList (k + 1) (if c = 46 then m + 1 else m) ++ exL (s.data.toList.drop (k + 1)) (if c = 46 then m + 1 else m)) := by
          rw [he.out, HS.out, hpend.out, List.nil_append]
        have HE := Lib.hid he'
        clear he' he
        by_cases hc : c = 46
        all_goals
          have h4 := H46.out
          simp only [hc, decide_true, decide_false] at h4
          have HC := Lib.hid hc
          clear hc
          by_cases h1 : (0 : Int) < k
          · by_cases h2 : (k : Int) + 2 < s.size
            · have h3 : ((s.extract (k - 1) (k + 3)).toList == [40, 46, 46, 41]) = false := by
                rw [← expB_extract s k (by omega)]
                exact Bool.eq_false_iff.2 fun e => hP ⟨by omega, e⟩
              clear hP
              go_wp2_with fail
              go_roundw
              case rel =>
                have he' := HE.out
                have hc := HC.out
                first | rw [if_pos hc] at he' | rw [if_neg hc] at he'
                exact ⟨k + 1, _, xs, by omega, by omega, by omega, by go_num, rfl, by omega, hown, hbw, he'⟩
              case measure => simp [intOf]; omega
            · clear hP
              go_wp2_with fail
              go_roundw
              case rel =>
                have he' := HE.out
                have hc := HC.out
                first | rw [if_pos hc] at he' | rw [if_neg hc] at he'
                exact ⟨k + 1, _, xs, by omega, by omega, by omega, by go_num, rfl, by omega, hown, hbw, he'⟩
              case measure => simp [intOf]; omega
          · clear hP
            go_wp2_with fail
            go_roundw
            case rel =>
              have he' := HE.out
              have hc := HC.out
              first | rw [if_pos hc] at he' | rw [if_neg hc] at he'
              exact ⟨k + 1, _, xs, by omega, by omega, by omega, by go_num, rfl, by omega, hown, hbw, he'⟩
            case measure => simp [intOf]; omega
    · obtain rfl : k = s.size := by omega
      have hend : exL s.data.toList 0 = xs := by
        have h1 : s.data.toList.drop s.size = [] := List.drop_of_length_le (by rw [Lib.size_eq]; exact Nat.le_refl _)
        have h2 : pend s.data.toList s.size m = [] := by
          unfold pend
          rw [if_neg]
          rintro ⟨h3, h4⟩
          have := expB_drop h4
          rw [← Lib.size_eq] at this
          omega
        have := he.out
        rw [h1, h2] at this
        simpa [exL] using this
      have HE := Lib.hid hend
      clear hend he
      go_wp2_with fail
      go_ret
      exact ⟨_, by rw [HE.out]; exact hown, hbw, rfl⟩
end Go.Proofs.Ytkpganpojdboeaa

/-! Has -/
namespace Go.Proofs.Ytkpganpojdboeaa
open Go.RowKit

theorem CellsI.weak {b1 b2 : Nat} {w : World} {v : Value} {xs : List Int} (h : CellsI b1 w v xs) (hb : b2 ≤ b1) : CellsI b2 w v xs := by
  rcases h with h | ⟨g, cap, h1, h2, h3⟩
  · exact .inl h
  · exact .inr ⟨g, cap, h1, Nat.le_trans hb h2, h3⟩

set_option maxHeartbeats 1000000 in
theorem l1Has_any (b1 : Nat) (v : Value) (xs : List Int) (n : Int) (w : World) (h : CellsI b1 w v xs) :
    Calls Try.prog 123 #[v, .int .i64 n] w (Quietly (.bool (xs.contains n)) w) := by
  have hl := h.len
  rcases h with ⟨rfl, rfl⟩ | ⟨g, cap, rfl, hb1, hg1, hc1, hm1, hx1, _⟩
  · go_enter Try.func123, Try.ntmps123
    go_wp2_with fail
    go_loopw [9] (fun i wr => i = .int .i64 0 ∧ wr = w) (fun _ _ => 0)
    case atStart => exact ⟨rfl, rfl⟩
    case round =>
      obtain ⟨rfl, rfl⟩ := hrel
      go_wp2_with fail
      go_ret
      exact ⟨rfl, 0, rfl⟩
  · have HX1 := Lib.hid hx1
    clear hx1
    go_enter Try.func123, Try.ntmps123
    go_wp2_with fail
    go_loopw [9] (fun i wr => ∃ k d : Nat, k ≤ xs.length ∧ i = .int .i64 k ∧ wr = w.drewN d ∧ Hid (xs.contains n = (xs.drop k).contains n)) (fun i _ => xs.length - (intOf i).toNat)
    case atStart => exact ⟨0, 0, Nat.zero_le _, rfl, rfl, rfl⟩
    case round =>
      obtain ⟨k, d, hk, rfl, rfl, he⟩ := hrel
      by_cases hlt : k < xs.length
      · have hlt' : (k : Int) < (xs.length : Int) := by omega
        have c1 := HX1.out k hlt
        obtain ⟨x, hx⟩ : ∃ x, x = xs.getD k 0 := ⟨_, rfl⟩
        have hd : xs.drop k = x :: xs.drop (k + 1) := by rw [List.drop_eq_getElem_cons hlt, hx]; simp [hlt]
        rw [← hx] at c1
        have he' := he.out
        rw [hd, List.contains_cons] at he'
        clear hx hd he
        cases hxn : (x == n) with
        | true =>
          have hn : (n == x) = true := by simp at hxn; simp [hxn]
          rw [hn, Bool.true_or] at he'
          have HE := Lib.hid he'
          clear he' hn
          go_wp2_with fail
          go_ret
          exact ⟨by rw [HE.out]; rfl, _, rfl⟩
        | false =>
          have hn : (n == x) = false := by simp at hxn; simp; exact fun e => hxn e.symm
          rw [hn, Bool.false_or] at he'
          have HE := Lib.hid he'
          clear he' hn
          go_wp2_with fail
          go_roundw
          case rel => exact ⟨k + 1, _, by omega, by go_num, rfl, HE⟩
          case measure => simp [intOf]; omega
      · obtain rfl : k = xs.length := by omega
        have he' := he.out
        rw [List.drop_of_length_le (Nat.le_refl _)] at he'
        have HE := Lib.hid he'
        clear he he'
        go_wp2_with fail
        go_ret
        exact ⟨by rw [HE.out]; rfl, _, rfl⟩
end Go.Proofs.Ytkpganpojdboeaa

/-! Both -/
namespace Go.Proofs.Ytkpganpojdboeaa
open Go.RowKit

/-- The left leaves with which the trees of both texts have exposed carets. -/
def bothL (a b : ByteArray) : List Int := (exL a.data.toList 0).filter fun n => (exL b.data.toList 0).contains n
theorem bothL_str (p : Pr) : bothL p.1.str p.2.str = both p := by
  unfold bothL both
  rw [Tr.str_list, Tr.str_list, exps_text, exps_text]

/-- Where a number is in a list, from k on. -/
def idxI : List Int → Nat → Int → Int
  | [], _, _ => -1
  | x :: xs, k, n => if n = x then k else idxI xs (k + 1) n
theorem idxI_has (xs : List Int) : ∀ (k : Nat) (n : Int), decide (0 ≤ idxI xs k n) = xs.contains n := by
  induction xs with
  | nil => intro k n; rfl
  | cons x xs ih =>
    intro k n
    rw [idxI, List.contains_cons]
    by_cases h : n = x
    · subst h; simp
    · have : (n == x) = false := by simpa using h
      rw [if_neg h, ih, this, Bool.false_or]
theorem idxI_le (xs : List Int) : ∀ (k : Nat) (n : Int), -1 ≤ idxI xs k n ∧ idxI xs k n ≤ k + xs.length := by
  induction xs with
  | nil => intro k n; simp [idxI]
  | cons x xs ih =>
    intro k n
    have := ih (k + 1) n
    rw [idxI]
    simp only [List.length_cons]
    split <;> omega

set_option maxHeartbeats 1000000 in
theorem index_any (b1 : Nat) (v : Value) (xs : List Int) (n : Int) (w : World) (h : CellsI b1 w v xs) :
    Calls Try.prog 133 #[v, .int .i64 n] w (Quietly (.int .i64 (idxI xs 0 n)) w) := by
  have hl := h.len
  rcases h with ⟨rfl, rfl⟩ | ⟨g, cap, rfl, hb1, hg1, hc1, hm1, hx1, _⟩
  · go_enter Try.func133, Try.ntmps133
    go_wp2_with fail
    go_loopw [8] (fun i wr => i = .int .i64 0 ∧ wr = w) (fun _ _ => 0)
    case atStart => exact ⟨rfl, rfl⟩
    case round =>
      obtain ⟨rfl, rfl⟩ := hrel
      go_wp2_with fail
      go_ret
      exact ⟨rfl, 0, rfl⟩
  · have HX1 := Lib.hid hx1
    clear hx1
    go_enter Try.func133, Try.ntmps133
    go_wp2_with fail
    go_loopw [8] (fun i wr => ∃ k d : Nat, k ≤ xs.length ∧ i = .int .i64 k ∧ wr = w.drewN d ∧ Hid (idxI xs 0 n = idxI (xs.drop k) k n)) (fun i _ => xs.length - (intOf i).toNat)
    case atStart => exact ⟨0, 0, Nat.zero_le _, rfl, rfl, rfl⟩
    case round =>
      obtain ⟨k, d, hk, rfl, rfl, he⟩ := hrel
      by_cases hlt : k < xs.length
      · have hlt' : (k : Int) < (xs.length : Int) := by omega
        have c1 := HX1.out k hlt
        obtain ⟨x, hx⟩ : ∃ x, x = xs.getD k 0 := ⟨_, rfl⟩
        have hd : xs.drop k = x :: xs.drop (k + 1) := by rw [List.drop_eq_getElem_cons hlt, hx]; simp [hlt]
        rw [← hx] at c1
        have he' := he.out
        rw [hd, idxI] at he'
        clear hx hd he
        by_cases hxn : n = x
        · rw [if_pos hxn] at he'
          have hn : (n == x) = true := by simpa using hxn
          have HE := Lib.hid he'
          clear he' hxn
          go_wp2_with fail
          go_ret
          exact ⟨ret_int (by rw [HE.out]), _, rfl⟩
        · rw [if_neg hxn] at he'
          have hn : (n == x) = false := by simpa using hxn
          have HE := Lib.hid he'
          clear he' hxn
          go_wp2_with fail
          go_roundw
          case rel => exact ⟨k + 1, _, by omega, by go_num, rfl, HE⟩
          case measure => simp [intOf]; omega
      · obtain rfl : k = xs.length := by omega
        have he' := he.out
        rw [List.drop_of_length_le (Nat.le_refl _)] at he'
        have HE := Lib.hid he'
        clear he he'
        go_wp2_with fail
        go_ret
        exact ⟨by rw [HE.out]; rfl, _, rfl⟩

theorem contains_any (b1 : Nat) (v : Value) (xs : List Int) (n : Int) (w : World) (h : CellsI b1 w v xs) :
    Calls Try.prog 110 #[v, .int .i64 n] w (Quietly (.bool (xs.contains n)) w) := by
  have hi := fun w h => index_any b1 v xs n w h
  have HI : Hid (decide (0 ≤ idxI xs 0 n) = xs.contains n) := idxI_has xs 0 n
  have H := Lib.hid h
  clear h
  generalize idxI xs 0 n = z at *
  go_enter Try.func110, Try.ntmps110
  go_wp2_with fail
  refine (hi _ H.out).mono ?_; rintro e w3 ⟨rfl, d, rfl⟩
  go_wp2_with fail
  go_ret
  exact ⟨ret_bool HI.out, _, rfl⟩

set_option maxRecDepth 100000 in
set_option maxHeartbeats 2000000 in
theorem prBoth_any (a b : ByteArray) (w : World) (ha : a.size ≤ 1000) (hb : b.size ≤ 1000) :
    Calls Try.prog 92 #[.agg #[.string a, .string b]] w (GivesInts (bothL a b) w) := by
  obtain ⟨i0, hi, hz0, hz1, hz2⟩ := info_parts info_int
  have hXl : (exL a.data.toList 0).length ≤ 1000 := by have := exL_length a.data.toList 0; rw [← Lib.size_eq] at this; omega
  have hA := fun w => trExposed_any a w ha
  have hB := fun w => trExposed_any b w hb
  obtain ⟨X, hX⟩ : ∃ X, X = exL a.data.toList 0 := ⟨_, rfl⟩
  obtain ⟨Y, hY⟩ : ∃ Y, Y = exL b.data.toList 0 := ⟨_, rfl⟩
  rw [← hX] at hA hXl
  rw [← hY] at hB
  rw [show bothL a b = X.filter fun n => Y.contains n by rw [hX, hY]; rfl]
  clear hX hY
  go_enter Try.func92, Try.ntmps92
  go_wp2_with fail
  have hb0 : Below w.heap.size w (w.alloc (.cells #[.string a, .string b] 25 (0, 0))) := nxAlloc (Below.refl _ _) _
  have hc := two_cells (heap_alloc_at w (.cells #[.string a, .string b] 25 (0, 0)))
  have hs : w.heap.size < (w.alloc (.cells #[.string a, .string b] 25 (0, 0))).heap.size := by simp
  generalize w.alloc (.cells #[.string a, .string b] 25 (0, 0)) = w0 at *
  refine (hB _).mono ?_; rintro e w1 ⟨v1, own1, hb1, rfl⟩
  have hc1 := keep_two hb1 hs hc
  have hs1 : w.heap.size < w1.heap.size := Nat.lt_of_lt_of_le hs hb1.size
  have hb01 := nx hb0 hb1
  obtain ⟨k1, k2⟩ := hc1
  go_wp2_with fail
  refine (hA _).mono ?_; rintro e w2 ⟨v2, own2, hb2, rfl⟩
  have own1' := own1.keep hb2
  have hbase : w.heap.size ≤ w0.heap.size := Nat.le_of_lt hs
  have hbase1 : w.heap.size ≤ w1.heap.size := Nat.le_of_lt hs1
  have hb02 := nx hb01 hb2
  have hcx := own2.cells
  clear hc k1 k2 hs hs1 own1 hb0 hb1 hb01
  have hp1 : Hid (OwnI w1.heap.size w2 v2 X) := own2
  have hp2 : Hid (OwnI w0.heap.size w2 v1 Y) := own1'
  clear own2 own1'
  rcases hcx with ⟨rfl, rfl⟩ | ⟨g, cap, rfl, hg0, hg1, hc1, hm1, hx1, _⟩
  · go_wp2_with fail
    go_loopw [3, 14] (fun v i wr => v = .slice none 0 0 ∧ i = .int .i64 0 ∧ wr = w2) (fun _ _ _ => 0)
    case atStart => exact ⟨rfl, rfl, rfl⟩
    case round =>
      obtain ⟨rfl, rfl, rfl⟩ := hrel
      go_wp2_with fail
      go_ret
      exact ⟨_, OwnI.nil _ _, hb02, rfl⟩
  · have HX1 := Lib.hid hx1
    clear hx1
    go_wp2_with fail
    go_loopw [3, 14] (fun v i wr => ∃ (k : Nat) (zs : List Int), k ≤ X.length ∧ i = .int .i64 k ∧ zs.length ≤ k ∧ OwnI w2.heap.size wr v zs ∧ Below w2.heap.size w2 wr ∧ Hid (X.filter (fun n => Y.contains n) = zs ++ (X.drop k).filter fun n => Y.contains n)) (fun _ i _ => X.length - (intOf i).toNat)
    case atStart => exact ⟨0, [], Nat.zero_le _, rfl, Nat.le_refl _, OwnI.nil _ _, Below.refl _ _, by show _ = _; simp⟩
    case round =>
      obtain ⟨k, zs, hk, rfl, hzl, hown, hbw, he⟩ := hrel
      by_cases hlt : k < X.length
      · have c1 := (hbw.cell (p := ⟨g, k, none⟩) hg1).trans (HX1.out k hlt)
        have hcy := (OwnI.keep hp2.out hbw).cells
        obtain ⟨x, hx⟩ : ∃ x, x = X.getD k 0 := ⟨_, rfl⟩
        have hd : X.drop k = x :: X.drop (k + 1) := by rw [List.drop_eq_getElem_cons hlt, hx]; simp [hlt]
        rw [← hx] at c1
        have he' := he.out
        rw [hd, List.filter_cons] at he'
        have hhas := fun w h => l1Has_any w0.heap.size v1 Y x w h
        clear hx hd he
        have hlt' : (k : Int) < (X.length : Int) := by omega
        cases hxn : Y.contains x with
        | true =>
          rw [hxn] at hhas
          rw [hxn, if_pos rfl] at he'
          have HE := Lib.hid he'
          have HCY := Lib.hid hcy
          clear he' hxn hcy
          go_wp2_with fail
          refine (hhas _ HCY.out).mono ?_; rintro e w3 ⟨rfl, d, hw3⟩
          have hb3 : Below wr.heap.size wr w3 := by rw [hw3]; exact drewB (Below.refl _ _) _
          have hbw3 := nx hbw hb3
          have hown3 := hown.keep hb3
          clear hw3 hbw hown hb3
          go_wp2_with (at_builtin; refine wpList_append_own _ rfl _ _ 31 rfl w2.heap.size 3 i0 (.int .i64 0) 1 8 Try.underlying31 hi hz0 hz1 hz2 rfl (by decide) _ _ _ rfl (hown3.alloc _) ⟨w3.heap.size, 0, none⟩ 1 1 [.int .i64 x] rfl rfl (new1 _ _ _) (one1 _) (by unfold maxLen; omega) (by omega) (size_al hbw3 _) ?_; intro v' w4 hown' hgrow hnn)
          have hbw' := below_app hbw3 hown3 (Nat.le_refl _) hgrow
          have hown1 := OwnI.snoc hown'
          clear hown3 hown' hgrow hbw3 hnn
          go_wp2_with fail
          go_roundw
          case rel =>
            have he' := HE.out
            exact ⟨k + 1, zs ++ [x], by omega, by go_num, by simp; omega, hown1, hbw', by show _ = _; rw [he']; simp⟩
          case measure => simp [intOf]; omega
        | false =>
          rw [hxn] at hhas
          rw [hxn, if_neg (by decide)] at he'
          have HE := Lib.hid he'
          have HCY := Lib.hid hcy
          clear he' hxn hcy
          go_wp2_with fail
          refine (hhas _ HCY.out).mono ?_; rintro e w3 ⟨rfl, d, hw3⟩
          have hb3 : Below wr.heap.size wr w3 := by rw [hw3]; exact drewB (Below.refl _ _) _
          have hbw3 := nx hbw hb3
          have hown3 := hown.keep hb3
          clear hw3 hbw hown hb3
          go_wp2_with fail
          go_roundw
          case rel => exact ⟨k + 1, zs, by omega, by go_num, by omega, hown3, hbw3, HE⟩
          case measure => simp [intOf]; omega
      · obtain rfl : k = X.length := by omega
        have he' := he.out
        rw [List.drop_of_length_le (Nat.le_refl _), List.filter_nil, List.append_nil] at he'
        have HE := Lib.hid he'
        clear he he'
        go_wp2_with fail
        go_ret
        exact ⟨_, by rw [HE.out]; exact hown.mono hb02.size, nx hb02 hbw, rfl⟩

set_option maxRecDepth 100000 in
set_option maxHeartbeats 2000000 in
theorem sharedExposed_any (a b : ByteArray) (w : World) (ha : a.size ≤ 1000) (hb : b.size ≤ 1000) :
    Calls Try.prog 119 #[.agg #[.string a, .string b]] w (GivesInts (bothL a b) w) := by
  obtain ⟨i0, hi, hz0, hz1, hz2⟩ := info_parts info_int
  have hXl : (exL a.data.toList 0).length ≤ 1000 := by have := exL_length a.data.toList 0; rw [← Lib.size_eq] at this; omega
  have hA := fun w => exposedIn_any a w ha
  have hB := fun w => exposedIn_any b w hb
  obtain ⟨X, hX⟩ : ∃ X, X = exL a.data.toList 0 := ⟨_, rfl⟩
  obtain ⟨Y, hY⟩ : ∃ Y, Y = exL b.data.toList 0 := ⟨_, rfl⟩
  rw [← hX] at hA hXl
  rw [← hY] at hB
  rw [show bothL a b = X.filter fun n => Y.contains n by rw [hX, hY]; rfl]
  clear hX hY
  go_enter Try.func119, Try.ntmps119
  go_wp2_with fail
  have hb0 : Below w.heap.size w (w.alloc (.cells #[.string a, .string b] 25 (0, 0))) := nxAlloc (Below.refl _ _) _
  have hc := two_cells (heap_alloc_at w (.cells #[.string a, .string b] 25 (0, 0)))
  have hs : w.heap.size < (w.alloc (.cells #[.string a, .string b] 25 (0, 0))).heap.size := by simp
  generalize w.alloc (.cells #[.string a, .string b] 25 (0, 0)) = w0 at *
  refine (hB _).mono ?_; rintro e w1 ⟨v1, own1, hb1, rfl⟩
  have hc1 := keep_two hb1 hs hc
  have hs1 : w.heap.size < w1.heap.size := Nat.lt_of_lt_of_le hs hb1.size
  have hb01 := nx hb0 hb1
  obtain ⟨k1, k2⟩ := hc1
  go_wp2_with fail
  refine (hA _).mono ?_; rintro e w2 ⟨v2, own2, hb2, rfl⟩
  have own1' := own1.keep hb2
  have hbase : w.heap.size ≤ w0.heap.size := Nat.le_of_lt hs
  have hbase1 : w.heap.size ≤ w1.heap.size := Nat.le_of_lt hs1
  have hb02 := nx hb01 hb2
  have hcx := own2.cells
  clear hc k1 k2 hs hs1 own1 hb0 hb1 hb01
  have hp1 : Hid (OwnI w1.heap.size w2 v2 X) := own2
  have hp2 : Hid (OwnI w0.heap.size w2 v1 Y) := own1'
  clear own2 own1'
  rcases hcx with ⟨rfl, rfl⟩ | ⟨g, cap, rfl, hg0, hg1, hc1, hm1, hx1, _⟩
  · go_wp2_with fail
    go_loopw [3, 14] (fun v i wr => v = .slice none 0 0 ∧ i = .int .i64 0 ∧ wr = w2) (fun _ _ _ => 0)
    case atStart => exact ⟨rfl, rfl, rfl⟩
    case round =>
      obtain ⟨rfl, rfl, rfl⟩ := hrel
      go_wp2_with fail
      go_ret
      exact ⟨_, OwnI.nil _ _, hb02, rfl⟩
  · have HX1 := Lib.hid hx1
    clear hx1
    go_wp2_with fail
    go_loopw [3, 14] (fun v i wr => ∃ (k : Nat) (zs : List Int), k ≤ X.length ∧ i = .int .i64 k ∧ zs.length ≤ k ∧ OwnI w2.heap.size wr v zs ∧ Below w2.heap.size w2 wr ∧ Hid (X.filter (fun n => Y.contains n) = zs ++ (X.drop k).filter fun n => Y.contains n)) (fun _ i _ => X.length - (intOf i).toNat)
    case atStart => exact ⟨0, [], Nat.zero_le _, rfl, Nat.le_refl _, OwnI.nil _ _, Below.refl _ _, by show _ = _; simp⟩
    case round =>
      obtain ⟨k, zs, hk, rfl, hzl, hown, hbw, he⟩ := hrel
      by_cases hlt : k < X.length
      · have c1 := (hbw.cell (p := ⟨g, k, none⟩) hg1).trans (HX1.out k hlt)
        have hcy := (OwnI.keep hp2.out hbw).cells
        obtain ⟨x, hx⟩ : ∃ x, x = X.getD k 0 := ⟨_, rfl⟩
        have hd : X.drop k = x :: X.drop (k + 1) := by rw [List.drop_eq_getElem_cons hlt, hx]; simp [hlt]
        rw [← hx] at c1
        have he' := he.out
        rw [hd, List.filter_cons] at he'
        have hhas := fun w h => contains_any w0.heap.size v1 Y x w h
        clear hx hd he
        have hlt' : (k : Int) < (X.length : Int) := by omega
        cases hxn : Y.contains x with
        | true =>
          rw [hxn] at hhas
          rw [hxn, if_pos rfl] at he'
          have HE := Lib.hid he'
          have HCY := Lib.hid hcy
          clear he' hxn hcy
          go_wp2_with fail
          refine (hhas _ HCY.out).mono ?_; rintro e w3 ⟨rfl, d, hw3⟩
          have hb3 : Below wr.heap.size wr w3 := by rw [hw3]; exact drewB (Below.refl _ _) _
          have hbw3 := nx hbw hb3
          have hown3 := hown.keep hb3
          clear hw3 hbw hown hb3
          go_wp2_with (at_builtin; refine wpList_append_own _ rfl _ _ 31 rfl w2.heap.size 3 i0 (.int .i64 0) 1 8 Try.underlying31 hi hz0 hz1 hz2 rfl (by decide) _ _ _ rfl (hown3.alloc _) ⟨w3.heap.size, 0, none⟩ 1 1 [.int .i64 x] rfl rfl (new1 _ _ _) (one1 _) (by unfold maxLen; omega) (by omega) (size_al hbw3 _) ?_; intro v' w4 hown' hgrow hnn)
          have hbw' := below_app hbw3 hown3 (Nat.le_refl _) hgrow
          have hown1 := OwnI.snoc hown'
          clear hown3 hown' hgrow hbw3 hnn
          go_wp2_with fail
          go_roundw
          case rel =>
            have he' := HE.out
            exact ⟨k + 1, zs ++ [x], by omega, by go_num, by simp; omega, hown1, hbw', by show _ = _; rw [he']; simp⟩
          case measure => simp [intOf]; omega
        | false =>
          rw [hxn] at hhas
          rw [hxn, if_neg (by decide)] at he'
          have HE := Lib.hid he'
          have HCY := Lib.hid hcy
          clear he' hxn hcy
          go_wp2_with fail
          refine (hhas _ HCY.out).mono ?_; rintro e w3 ⟨rfl, d, hw3⟩
          have hb3 : Below wr.heap.size wr w3 := by rw [hw3]; exact drewB (Below.refl _ _) _
          have hbw3 := nx hbw hb3
          have hown3 := hown.keep hb3
          clear hw3 hbw hown hb3
          go_wp2_with fail
          go_roundw
          case rel => exact ⟨k + 1, zs, by omega, by go_num, by omega, hown3, hbw3, HE⟩
          case measure => simp [intOf]; omega
      · obtain rfl : k = X.length := by omega
        have he' := he.out
        rw [List.drop_of_length_le (Nat.le_refl _), List.filter_nil, List.append_nil] at he'
        have HE := Lib.hid he'
        clear he he'
        go_wp2_with fail
        go_ret
        exact ⟨_, by rw [HE.out]; exact hown.mono hb02.size, nx hb02 hbw, rfl⟩
end Go.Proofs.Ytkpganpojdboeaa

/-! Graft -/
namespace Go.Proofs.Ytkpganpojdboeaa
open Go.RowKit

theorem limitS_yes (s : ByteArray) (w : World) (h : (s.size : Int) ≤ 25) : Calls Try.prog 84 #[.string s] w fun e w' => e = .returned (.tuple #[.string s, .bool true]) ∧ w = w' := by
  go_enter Try.func84, Try.ntmps84
  go_wp2_with fail
  go_ret2
  exact ⟨rfl, rfl⟩
theorem limitS_no (s : ByteArray) (w : World) (h : 25 < (s.size : Int)) : Calls Try.prog 84 #[.string s] w fun e w' => e = .returned (.tuple #[.string ⟨#[]⟩, .bool false]) ∧ w = w' := by
  go_enter Try.func84, Try.ntmps84
  go_wp2_with fail
  go_ret2
  exact ⟨rfl, rfl⟩

def graftO (a : ByteArray) (n : Int) (b : ByteArray) : Option ByteArray :=
  match treeOf a, treeOf b with
  | some t, some u => if 0 ≤ n ∧ n ≤ t.carets ∧ t.carets + u.carets ≤ 8 then some (graftS a n b) else none
  | _, _ => none

set_option maxRecDepth 100000 in
set_option maxHeartbeats 1000000 in
theorem leafPlace_neg (s : ByteArray) (n : Int) (w : World) (hs : s.size ≤ 1000) (hn : n < 0) (hn' : -9223372036854775808 ≤ n) :
    Calls Try.prog 142 #[.string s, .int .i64 n] w (Quietly (.int .i64 (-1)) w) := by
  go_enter Try.func142, Try.ntmps142
  go_wp2_with fail
  go_loopw [1, 8] (fun v i wr => ∃ (k : Nat) (m : Int) (d : Nat), k ≤ s.size ∧ i = .int .i64 k ∧ v = .int .i64 m ∧ -9223372036854775808 ≤ m ∧ m ≤ 9223372036854775807 ∧ Hid (m < 0 ∨ 9223372036854775807 - (k : Int) ≤ m) ∧ wr = w.drewN d) (fun _ i _ => s.size - (intOf i).toNat)
  case atStart => exact ⟨0, n, 0, Nat.zero_le _, rfl, rfl, by omega, by omega, .inl hn, rfl⟩
  case round =>
    obtain ⟨k, m, d, hk, rfl, rfl, hm, hm', hor, rfl⟩ := hrel
    by_cases hlt : k < s.size
    · cases h46 : (((s[k]'hlt).toNat : Int) == 46) with
      | true =>
        have h46' : Hid ((((s[k]'hlt).toNat : Int) != 46) = false) := by show (_ != _) = false; rw [bne, h46]; rfl
        clear h46
        have g0 : (m == 0) = false := by have := hor.out; simp; omega
        by_cases hmin : m = -9223372036854775808
        · obtain rfl := hmin
          go_wp2_with fail
          have g := h46'.out
          have gz : ((⟨#[46]⟩ : ByteArray)[0]'(by decide)).toNat = 46 := rfl
          go_quiet (fail)
          go_wp2_with fail
          clear g gz g0
          go_roundw
          case rel => exact ⟨k + 1, 9223372036854775807, _, by omega, by go_num, by unfold wrap64; rfl, by omega, by omega, .inr (by omega), rfl⟩
          case measure => simp [intOf]; omega
        · have hm2 : -9223372036854775807 ≤ m := by omega
          clear hmin
          go_wp2_with fail
          have g := h46'.out
          have gz : ((⟨#[46]⟩ : ByteArray)[0]'(by decide)).toNat = 46 := rfl
          go_quiet (fail)
          go_wp2_with fail
          clear g gz g0
          go_roundw
          case rel => exact ⟨k + 1, m - 1, _, by omega, by go_num, rfl, by omega, by omega, by have := hor.out; show _ ∨ _; omega, rfl⟩
          case measure => simp [intOf]; omega
      | false =>
        have h46' : Hid ((((s[k]'hlt).toNat : Int) != 46) = true) := by show (_ != _) = true; rw [bne, h46]; rfl
        clear h46
        go_wp2_with fail
        have g := h46'.out
        have gz : ((⟨#[46]⟩ : ByteArray)[0]'(by decide)).toNat = 46 := rfl
        go_quiet (fail)
        go_wp2_with fail
        clear g gz
        go_roundw
        case rel => exact ⟨k + 1, m, _, by omega, by go_num, rfl, by omega, by omega, by have := hor.out; show _ ∨ _; omega, rfl⟩
        case measure => simp [intOf]; omega
    · obtain rfl : k = s.size := by omega
      go_wp2_with fail
      go_ret
      exact ⟨rfl, _, rfl⟩

set_option maxHeartbeats 400000 in
theorem implGraftAt_any (a : ByteArray) (n : Int) (b : ByteArray) (w : World) (ha : a.size ≤ 9223372036854775806) (hb : b.size ≤ 9223372036854775806) (hn' : -9223372036854775808 ≤ n) (hn : n ≤ 9223372036854775807) :
    Calls Try.prog 137 #[.string a, .int .i64 n, .string b] w (Gives (ans2 (graftO a n b)) w) := by
  cases h : treeOf a with
  | none =>
    rw [show graftO a n b = none by simp [graftO, h]]
    have H := Lib.hid h
    clear h
    go_enter Try.func137, Try.ntmps137
    go_wp2_with fail
    refine (implIsTree_no a _ ha H.out).mono ?_; rintro e w1 ⟨hb1, rfl⟩
    go_wp2_with fail
    go_ret2
    exact ⟨rfl, hb1⟩
  | some t =>
    obtain ⟨rfl, hc⟩ := treeOf_some h
    have st := t.str_size
    cases k : treeOf b with
    | none =>
      rw [show graftO t.str n b = none by simp [graftO, k]]
      have H := Lib.hid k
      clear h k
      go_enter Try.func137, Try.ntmps137
      go_wp2_with fail
      refine (implIsTree_yes t _ hc).mono ?_; rintro e w1 ⟨hb1, rfl⟩
      go_wp2_with fail
      refine (implIsTree_no b _ hb H.out).mono ?_; rintro e w2 ⟨hb2, rfl⟩
      go_wp2_with fail
      go_ret2
      exact ⟨rfl, nx hb1 hb2⟩
    | some u =>
      obtain ⟨rfl, hd⟩ := treeOf_some k
      have su := u.str_size
      rcases pos_str t n with ⟨hn0, hn1, hp0, hp1⟩ | ⟨hout, hp⟩
      · have gs := graft_size t n u.str hp0 hp1
        have HG : graftO t.str n u.str = if (t.carets : Int) + u.carets ≤ 8 then some (graftS t.str n u.str) else none := by
          simp only [graftO, h, k]
          by_cases hz : (t.carets : Int) + u.carets ≤ 8
          · rw [if_pos hz, if_pos (by omega)]
          · rw [if_neg hz, if_neg (by omega)]
        clear h k
        obtain ⟨q, hq⟩ : ∃ q : Nat, posFrom t.str.data.toList 0 n = q := ⟨(posFrom t.str.data.toList 0 n).toNat, by omega⟩
        have hgr : graftS t.str n u.str = t.str.extract 0 q ++ u.str ++ t.str.extract (q + 1) t.str.size := by unfold graftS; rw [hq]; rfl
        have hlq : q < t.str.size := by omega
        have hzt : t.str.size ≤ 1000 := by omega
        have hzu : u.str.size ≤ 1000 := by omega
        have hc3 := leafPlace_any t.str n
        rw [hq] at hc3
        have HQ := Lib.hid hgr
        have GS := Lib.hid gs
        by_cases hz : (t.carets : Int) + u.carets ≤ 8
        · rw [HG, if_pos hz]
          have hsz : Hid (((t.str.extract 0 q ++ u.str ++ t.str.extract (q + 1) t.str.size).size : Int) ≤ 25) := by
            show _ ≤ _
            rw [← hgr, gs]; omega
          clear HG hq hgr gs hp0 hp1 st su
          go_enter Try.func137, Try.ntmps137
          go_wp2_with fail
          refine (implIsTree_yes t _ hc).mono ?_; rintro e w1 ⟨hb1, rfl⟩
          go_wp2_with fail
          refine (implIsTree_yes u _ hd).mono ?_; rintro e w2 ⟨hb2, rfl⟩
          go_wp2_with fail
          refine (hc3 _ ha hn0 hn).mono ?_; rintro e w3 ⟨rfl, d, hw3⟩; have hb3 : Below w.heap.size w w3 := by rw [hw3]; exact drewB (nx hb1 hb2) d
          clear hw3
          go_wp2_with fail
          have hq1 : (q : Int) ≤ (t.str.size : Int) := by omega
          have hq2 : (q : Int) + 1 ≤ (t.str.size : Int) := by omega
          go_quiet ((go_at_call 84; exact quiet_eq (limitS_yes _ _ hsz.out)))
          go_wp2_with fail
          go_ret2
          exact ⟨by rw [HQ.out]; rfl, drewB hb3 _⟩
        · rw [HG, if_neg hz]
          have hsz : Hid (25 < ((t.str.extract 0 q ++ u.str ++ t.str.extract (q + 1) t.str.size).size : Int)) := by
            show _ < _
            rw [← hgr, gs]; omega
          clear HG hq hgr gs hp0 hp1 st su
          go_enter Try.func137, Try.ntmps137
          go_wp2_with fail
          refine (implIsTree_yes t _ hc).mono ?_; rintro e w1 ⟨hb1, rfl⟩
          go_wp2_with fail
          refine (implIsTree_yes u _ hd).mono ?_; rintro e w2 ⟨hb2, rfl⟩
          go_wp2_with fail
          refine (hc3 _ ha hn0 hn).mono ?_; rintro e w3 ⟨rfl, d, hw3⟩; have hb3 : Below w.heap.size w w3 := by rw [hw3]; exact drewB (nx hb1 hb2) d
          clear hw3
          go_wp2_with fail
          have hq1 : (q : Int) ≤ (t.str.size : Int) := by omega
          have hq2 : (q : Int) + 1 ≤ (t.str.size : Int) := by omega
          go_quiet ((go_at_call 84; exact quiet_eq (limitS_no _ _ hsz.out)))
          go_wp2_with fail
          go_ret2
          exact ⟨rfl, drewB hb3 _⟩
      · have HG : graftO t.str n u.str = none := by
          simp only [graftO, h, k]
          rw [if_neg (by omega)]
        rw [HG]
        have hl : ∀ w, Calls Try.prog 142 #[.string t.str, .int .i64 n] w (Quietly (.int .i64 (-1)) w) := by
          intro w
          by_cases hneg : n < 0
          · exact leafPlace_neg t.str n w (by omega) hneg hn'
          · have := leafPlace_any t.str n w ha (by omega) hn
            rwa [hp] at this
        clear HG hp h k hout st su
        go_enter Try.func137, Try.ntmps137
        go_wp2_with fail
        refine (implIsTree_yes t _ hc).mono ?_; rintro e w1 ⟨hb1, rfl⟩
        go_wp2_with fail
        refine (implIsTree_yes u _ hd).mono ?_; rintro e w2 ⟨hb2, rfl⟩
        go_wp2_with fail
        refine (hl _).mono ?_; rintro e w3 ⟨rfl, d, rfl⟩
        go_wp2_with fail
        go_ret2
        exact ⟨rfl, drewB (nx hb1 hb2) _⟩
end Go.Proofs.Ytkpganpojdboeaa
