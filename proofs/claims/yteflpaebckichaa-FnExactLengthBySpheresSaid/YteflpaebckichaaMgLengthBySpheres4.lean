/- Texts that the claim needs, part 5. -/
import Derived.Test.YteflpaebckichaaMgLengthBySpheres3
import Derived.Deep.AppendLies
/-! MgP -/
namespace Go.Proofs.Yteflpaebckichaa

def ltB (a b : ByteArray) : Prop := Go.Op.bytesLess a.toList b.toList = true
theorem ltB_iff {a b : ByteArray} : ltB a b ↔ a.data.toList < b.data.toList := by
  unfold ltB
  rw [less_list, Lib.toList_data, Lib.toList_data]
  simp
theorem ltB_irrefl (a : ByteArray) : ¬ ltB a a := by rw [ltB_iff]; exact List.lt_irrefl _
theorem ltB_trans {a b c : ByteArray} (h : ltB a b) (k : ltB b c) : ltB a c := by rw [ltB_iff] at *; exact List.lt_trans h k
theorem ltB_tri (a b : ByteArray) : ltB a b ∨ a = b ∨ ltB b a := by
  rw [ltB_iff, ltB_iff]
  by_cases h : a.data.toList < b.data.toList
  · exact Or.inl h
  · by_cases k : b.data.toList < a.data.toList
    · exact Or.inr (Or.inr k)
    · exact Or.inr (Or.inl (ba_ext (List.le_antisymm (α := UInt8) k h)))
theorem IncS.lt {ss : List ByteArray} (h : IncS ss) {i j : Nat} (hi : i < j) (hj : j < ss.length) : ltB (ss.getD i ⟨#[]⟩) (ss.getD j ⟨#[]⟩) := h i j hi hj
theorem getD_mem9 {ss : List ByteArray} {i : Nat} (h : i < ss.length) : ss.getD i ⟨#[]⟩ ∈ ss := by
  rw [List.getD_eq_getElem?_getD, List.getElem?_eq_getElem h]; exact List.getElem_mem h
theorem mem_getD9 {ss : List ByteArray} {x : ByteArray} (h : x ∈ ss) : ∃ i, i < ss.length ∧ ss.getD i ⟨#[]⟩ = x := by
  obtain ⟨i, hi, e⟩ := List.mem_iff_getElem.1 h
  exact ⟨i, hi, by simp [List.getD_eq_getElem?_getD, hi, e]⟩
/-- What a merge has made of the first a and b texts. -/
structure Mg (A B : List ByteArray) (a b : Nat) (O : List ByteArray) : Prop where
  inc : IncS O
  mem : ∀ x, x ∈ O ↔ x ∈ A.take a ∨ x ∈ B.take b
  fa : ∀ x ∈ O, ∀ i, a ≤ i → i < A.length → ¬ ltB (A.getD i ⟨#[]⟩) x
  fb : ∀ x ∈ O, ∀ i, b ≤ i → i < B.length → ¬ ltB (B.getD i ⟨#[]⟩) x
  len : O.length ≤ a + b
theorem Mg.start (A B : List ByteArray) : Mg A B 0 0 [] := ⟨fun i j _ hj => by simp at hj, by simp, by simp, by simp, by simp⟩
theorem Mg.swap {A B O : List ByteArray} {a b : Nat} (h : Mg A B a b O) : Mg B A b a O := ⟨h.inc, fun x => by rw [h.mem x, or_comm], h.fb, h.fa, by have := h.len; omega⟩
theorem IncS.snoc {O : List ByteArray} {s : ByteArray} (h : IncS O) (k : ∀ x ∈ O, ltB x s) : IncS (O ++ [s]) := by
  intro i j hi hj
  simp only [List.length_append, List.length_cons, List.length_nil] at hj
  rcases Nat.lt_or_ge j O.length with h1 | h1
  · have e1 : (O ++ [s]).getD i ⟨#[]⟩ = O.getD i ⟨#[]⟩ := by simp [List.getD_eq_getElem?_getD, List.getElem?_append_left (show i < O.length by omega)]
    have e2 : (O ++ [s]).getD j ⟨#[]⟩ = O.getD j ⟨#[]⟩ := by simp [List.getD_eq_getElem?_getD, List.getElem?_append_left h1]
    rw [e1, e2]; exact h i j hi h1
  · obtain rfl : j = O.length := by omega
    have e1 : (O ++ [s]).getD i ⟨#[]⟩ = O.getD i ⟨#[]⟩ := by simp [List.getD_eq_getElem?_getD, List.getElem?_append_left (show i < O.length by omega)]
    have e2 : (O ++ [s]).getD O.length ⟨#[]⟩ = s := by simp [List.getD_eq_getElem?_getD]
    rw [e1, e2]; exact k _ (getD_mem9 (by omega))
theorem Mg.base {A B O : List ByteArray} {a b : Nat} (hA : IncS A) (hB : IncS B) (_h : Mg A B a b O) (hs : b < B.length → ¬ ltB (B.getD b ⟨#[]⟩) (A.getD a ⟨#[]⟩)) :
    (∀ i, a + 1 ≤ i → i < A.length → ¬ ltB (A.getD i ⟨#[]⟩) (A.getD a ⟨#[]⟩)) ∧ ∀ i, b ≤ i → i < B.length → ¬ ltB (B.getD i ⟨#[]⟩) (A.getD a ⟨#[]⟩) := by
  refine ⟨fun i h1 h2 h3 => ltB_irrefl _ (ltB_trans h3 (hA.lt (show a < i by omega) h2)), fun i h1 h2 h3 => ?_⟩
  rcases Nat.lt_or_ge b i with h4 | h4
  · exact hs (by omega) (ltB_trans (hB.lt h4 h2) h3)
  · obtain rfl : i = b := by omega
    exact hs h2 h3
theorem take_memA {A : List ByteArray} {a : Nat} (ha : a < A.length) (x : ByteArray) : x ∈ A.take (a + 1) ↔ x ∈ A.take a ∨ x = A.getD a ⟨#[]⟩ := by
  rw [take_snocS ha, List.mem_append, List.mem_singleton]
/-- The next one is new. -/
theorem Mg.new {A B O : List ByteArray} {a b : Nat} (hA : IncS A) (hB : IncS B) (h : Mg A B a b O) (ha : a < A.length) (hs : b < B.length → ¬ ltB (B.getD b ⟨#[]⟩) (A.getD a ⟨#[]⟩))
    (hn : O = [] ∨ O.getD (O.length - 1) ⟨#[]⟩ ≠ A.getD a ⟨#[]⟩) : Mg A B (a + 1) b (O ++ [A.getD a ⟨#[]⟩]) := by
  obtain ⟨b1, b2⟩ := h.base hA hB hs
  have hlt : ∀ x ∈ O, ltB x (A.getD a ⟨#[]⟩) := by
    intro x hx
    rcases hn with hn | hn
    · rw [hn] at hx; simp at hx
    · have hpos : 0 < O.length := List.length_pos_of_mem hx
      have hl : ltB (O.getD (O.length - 1) ⟨#[]⟩) (A.getD a ⟨#[]⟩) := by
        rcases ltB_tri (O.getD (O.length - 1) ⟨#[]⟩) (A.getD a ⟨#[]⟩) with h1 | h1 | h1
        · exact h1
        · exact absurd h1 hn
        · exact absurd h1 (h.fa _ (getD_mem9 (by omega)) a (Nat.le_refl _) ha)
      obtain ⟨i, hi, rfl⟩ := mem_getD9 hx
      rcases Nat.lt_or_ge i (O.length - 1) with h1 | h1
      · exact ltB_trans (h.inc.lt h1 (by omega)) hl
      · obtain rfl : i = O.length - 1 := by omega
        exact hl
  refine ⟨h.inc.snoc hlt, fun x => ?_, fun x hx i h1 h2 => ?_, fun x hx i h1 h2 => ?_, by have := h.len; simp; omega⟩
  · rw [List.mem_append, List.mem_singleton, h.mem x, take_memA ha]
    constructor
    · rintro ((h1 | h1) | h1)
      · exact Or.inl (Or.inl h1)
      · exact Or.inr h1
      · exact Or.inl (Or.inr h1)
    · rintro ((h1 | h1) | h1)
      · exact Or.inl (Or.inl h1)
      · exact Or.inr h1
      · exact Or.inl (Or.inr h1)
  · rcases List.mem_append.1 hx with h3 | h3
    · exact h.fa x h3 i (by omega) h2
    · simp only [List.mem_singleton] at h3; subst h3; exact b1 i h1 h2
  · rcases List.mem_append.1 hx with h3 | h3
    · exact h.fb x h3 i h1 h2
    · simp only [List.mem_singleton] at h3; subst h3; exact b2 i h1 h2
/-- The next one is there. -/
theorem Mg.old {A B O : List ByteArray} {a b : Nat} (h : Mg A B a b O) (ha : a < A.length) (hpos : 0 < O.length) (hn : O.getD (O.length - 1) ⟨#[]⟩ = A.getD a ⟨#[]⟩) : Mg A B (a + 1) b O := by
  have hm : A.getD a ⟨#[]⟩ ∈ O := hn ▸ getD_mem9 (by omega)
  refine ⟨h.inc, fun x => ?_, fun x hx i h1 h2 => h.fa x hx i (by omega) h2, h.fb, by have := h.len; omega⟩
  rw [take_memA ha]
  constructor
  · intro hx
    rcases (h.mem x).1 hx with h1 | h1
    · exact Or.inl (Or.inl h1)
    · exact Or.inr h1
  · rintro ((h1 | h1) | h1)
    · exact (h.mem x).2 (Or.inl h1)
    · rw [h1]; exact hm
    · exact (h.mem x).2 (Or.inr h1)
theorem Mg.done {A B O : List ByteArray} (h : Mg A B A.length B.length O) : IncS O ∧ ∀ x, x ∈ O ↔ x ∈ A ∨ x ∈ B := ⟨h.inc, fun x => by rw [h.mem x, List.take_length, List.take_length]⟩
end Go.Proofs.Yteflpaebckichaa

/-! ChP -/
namespace Go.Proofs.Yteflpaebckichaa
/-- The right comb. -/
def combR8 : Nat → Tr
  | 0 => .lf
  | n + 1 => .nd .lf (combR8 n)
theorem spots_none_comb (t : Tr) : ∀ here, t.spots false here = [] → t = combR8 t.carets := by
  induction t with
  | lf => intro here _; rfl
  | nd l r _ ihr =>
    intro here h
    rw [Tr.spots, List.append_eq_nil_iff, List.append_eq_nil_iff] at h
    have hr := ihr _ h.2.2
    cases l with
    | lf =>
      simp only [Tr.carets, Nat.zero_add]
      show Tr.nd .lf r = .nd .lf (combR8 r.carets)
      rw [← hr]
    | nd a b =>
      exfalso
      have h1 := h.1
      unfold Tr.here1 at h1
      rw [if_pos (by rfl)] at h1
      simp at h1
theorem nextT_none_comb {t : Tr} (h : nextT t = none) : t = combR8 t.carets := by
  cases k : t.spots false ⟨#[]⟩ with
  | nil => exact spots_none_comb t _ k
  | cons a as1 =>
    obtain ⟨u, _, h2⟩ := nextT_cons k
    rw [h] at h2; cases h2
theorem chainF_last (k : Nat) : ∀ t : Tr, t.lw ≤ k → (chainF k t).getLast? = some (combR8 t.carets) := by
  induction k with
  | zero =>
    intro t h
    have hn : nextT t = none := by
      cases g : nextT t with
      | none => rfl
      | some u => have := nextT_lw g; omega
    show [t].getLast? = _
    rw [← nextT_none_comb hn]; rfl
  | succ k ih =>
    intro t h
    rw [chainF]
    cases g : nextT t with
    | none => show [t].getLast? = _; rw [← nextT_none_comb g]; rfl
    | some u =>
      have h1 := nextT_lw g
      have h2 := ih u (by omega)
      rw [nextT_carets g] at h2
      have h3 := (chainF_len k u).2
      simp only
      rw [List.getLast?_cons, h2]; rfl
theorem chainT_last (t : Tr) : (chainT t).getLast? = some (combR8 t.carets) := chainF_last _ t (Nat.le_refl _)
theorem dropLast_last {α : Type} {l : List α} {x : α} (h : l.getLast? = some x) : l = l.dropLast ++ [x] := by
  induction l with
  | nil => simp at h
  | cons a l ih =>
    cases l with
    | nil => simp at h; subst h; rfl
    | cons b l =>
      rw [List.getLast?_cons_cons] at h
      rw [List.dropLast_cons_cons, List.cons_append, ← ih h]
/-- From one to the other over the right comb. -/
def betweenT (a b : Tr) : List Tr := chainT a ++ (chainT b).dropLast.reverse
theorem between_eq {a b : Tr} (h : a.carets = b.carets) : (chainT a).dropLast ++ (chainT b).reverse = betweenT a b := by
  have h1 := dropLast_last (chainT_last a)
  have h2 := dropLast_last (chainT_last b)
  unfold betweenT
  rw [show (chainT b).reverse = combR8 b.carets :: (chainT b).dropLast.reverse by
    conv => lhs; rw [h2]
    simp]
  conv => rhs; rw [h1]
  rw [h]; simp
end Go.Proofs.Yteflpaebckichaa

/-! DiP -/
namespace Go.Proofs.Yteflpaebckichaa

theorem rot_back {k : Bool} {t u : Tr} (h : t.rot k = some u) : u.rot (!k) = some t := by
  unfold Tr.rot at h
  split at h
  · injection h with h; subst h; rfl
  · injection h with h; subst h; rfl
  · simp at h
theorem rotAt_back {k : Bool} : ∀ (p : List UInt8) {t u : Tr}, t.rotAt k p = some u → u.rotAt (!k) p = some t := by
  intro p
  induction p with
  | nil => intro t u h; rw [rotAt_nil] at h ⊢; exact rot_back h
  | cons c cs ih =>
    intro t u h
    cases t with
    | lf => simp [Tr.rotAt] at h
    | nd l r =>
      rw [Tr.rotAt] at h
      split at h
      · next hc =>
        cases g : l.rotAt k cs with
        | none => rw [g] at h; simp at h
        | some x => rw [g] at h; simp at h; subst h; rw [Tr.rotAt, if_pos hc, ih g]; rfl
      · next hc =>
        split at h
        · next hd =>
          cases g : r.rotAt k cs with
          | none => rw [g] at h; simp at h
          | some x => rw [g] at h; simp at h; subst h; rw [Tr.rotAt, if_neg hc, if_pos hd, ih g]; rfl
        · simp at h
/-- Each address at which a tree can be rotated is among the places. -/
theorem spots_all {k : Bool} : ∀ (p : List UInt8) (t : Tr) (here : ByteArray), (t.rotAt k p).isSome = true → ∃ a ∈ t.spots k here, a.data.toList = here.data.toList ++ p := by
  intro p
  induction p with
  | nil =>
    intro t here h
    rw [rotAt_nil] at h
    cases t with
    | lf => rw [rot_lf] at h; simp at h
    | nd l r => exact ⟨here, by rw [Tr.spots]; unfold Tr.here1; rw [if_pos h]; simp, by simp⟩
  | cons c cs ih =>
    intro t here h
    have e : ∀ c : UInt8, (here ++ (⟨#[c]⟩ : ByteArray)).data.toList = here.data.toList ++ [c] := fun c => by simp
    cases t with
    | lf => simp [Tr.rotAt] at h
    | nd l r =>
      rw [Tr.rotAt] at h
      split at h
      · next hc =>
        subst hc
        obtain ⟨a, ha, hd⟩ := ih l (here ++ ⟨#[48]⟩) (by simpa using h)
        exact ⟨a, by rw [Tr.spots]; simp [ha], by rw [hd, e]; simp⟩
      · split at h
        · next hc =>
          subst hc
          obtain ⟨a, ha, hd⟩ := ih r (here ++ ⟨#[49]⟩) (by simpa using h)
          exact ⟨a, by rw [Tr.spots]; simp [ha], by rw [hd, e]; simp⟩
        · simp at h

/-- One turn. -/
def Turn (t u : Tr) : Prop := ∃ k p, t.rotAt k p = some u
theorem Turn.back {t u : Tr} : Turn t u → Turn u t := fun ⟨k, p, h⟩ => ⟨!k, p, rotAt_back p h⟩
theorem Turn.carets {t u : Tr} : Turn t u → u.carets = t.carets := fun ⟨_, p, h⟩ => rotAt_carets p h
theorem turnL_mem {k : Bool} {t : Tr} {s : ByteArray} : s ∈ turnL k t (t.spots k ⟨#[]⟩) ↔ ∃ p u, t.rotAt k p = some u ∧ s = u.str := by
  unfold turnL
  rw [List.mem_map]
  constructor
  · rintro ⟨a, ha, hs⟩
    obtain ⟨u, hu⟩ := spots_mem0 ha
    rw [hu] at hs
    exact ⟨_, u, hu, hs.symm⟩
  · rintro ⟨p, u, hu, rfl⟩
    obtain ⟨a, ha, hd⟩ := spots_all p t ⟨#[]⟩ (by rw [hu]; rfl)
    refine ⟨a, ha, ?_⟩
    have : a.data.toList = p := by simpa using hd
    rw [this, hu]
theorem nearT_mem {t : Tr} {s : ByteArray} : s ∈ nearT t ↔ ∃ u, Turn t u ∧ s = u.str := by
  have hp := insAll_perm (reachT t) []
  unfold nearT
  rw [hp.mem_iff, List.append_nil]
  unfold reachT
  rw [List.mem_append, turnL_mem, turnL_mem]
  constructor
  · rintro (⟨p, u, h, rfl⟩ | ⟨p, u, h, rfl⟩)
    · exact ⟨u, ⟨_, p, h⟩, rfl⟩
    · exact ⟨u, ⟨_, p, h⟩, rfl⟩
  · rintro ⟨u, ⟨k, p, h⟩, rfl⟩
    cases k with
    | false => exact Or.inl ⟨p, u, h, rfl⟩
    | true => exact Or.inr ⟨p, u, h, rfl⟩

/-- The trees of the neighbours' texts. -/
def nearL (t : Tr) : List Tr := (nearT t).map fun s => (treeOf s).getD .lf
theorem nearL_str {t : Tr} (ht : t.carets ≤ 8) : (nearL t).map Tr.str = nearT t := by
  unfold nearL
  rw [List.map_map]
  conv => rhs; rw [← List.map_id (nearT t)]
  refine List.map_congr_left fun s hs => ?_
  obtain ⟨u, hu, rfl⟩ := nearT_mem.1 hs
  have := hu.carets
  simp [treeOf_str u (by omega)]
theorem nearL_mem {t u : Tr} (ht : t.carets ≤ 8) : u ∈ nearL t ↔ Turn t u := by
  unfold nearL
  rw [List.mem_map]
  constructor
  · rintro ⟨s, hs, rfl⟩
    obtain ⟨u, hu, rfl⟩ := nearT_mem.1 hs
    have := hu.carets
    rw [treeOf_str u (by omega)]; exact hu
  · intro hu
    have := hu.carets
    exact ⟨u.str, nearT_mem.2 ⟨u, hu, rfl⟩, by rw [treeOf_str u (by omega)]; rfl⟩
theorem nearL_carets {t u : Tr} (ht : t.carets ≤ 8) (h : u ∈ nearL t) : u.carets = t.carets := ((nearL_mem ht).1 h).carets
theorem nearL_len (t : Tr) : (nearL t).length ≤ 2 * t.carets := by unfold nearL; rw [List.length_map]; exact nearT_len t

/-- A walk of so many turns. -/
def Wk : Nat → Tr → Tr → Prop
  | 0, a, b => a = b
  | n + 1, a, b => ∃ c, Wk n a c ∧ Turn c b
theorem Wk.carets : ∀ {n : Nat} {a b : Tr}, Wk n a b → b.carets = a.carets := by
  intro n
  induction n with
  | zero => intro a b h; rw [show a = b from h]
  | succ n ih => rintro a b ⟨c, h1, h2⟩; rw [h2.carets, ih h1]
theorem Wk.trans : ∀ {n : Nat} {m : Nat} {a b c : Tr}, Wk m a b → Wk n b c → Wk (m + n) a c := by
  intro n
  induction n with
  | zero => intro m a b c h k; rw [← (show b = c from k)]; exact h
  | succ n ih => rintro m a b c h ⟨d, k1, k2⟩; exact ⟨d, ih h k1, k2⟩
theorem Wk.one {a b : Tr} (h : Turn a b) : Wk 1 a b := ⟨a, rfl, h⟩
theorem Wk.back : ∀ {n : Nat} {a b : Tr}, Wk n a b → Wk n b a := by
  intro n
  induction n with
  | zero => intro a b h; exact (show a = b from h).symm
  | succ n ih => rintro a b ⟨c, h1, h2⟩; have := (Wk.one h2.back).trans (ih h1); rwa [Nat.add_comm] at this
theorem Wk.part : ∀ {n : Nat} {m : Nat} {a b : Tr}, Wk (m + n) a b → ∃ c, Wk m a c ∧ Wk n c b := by
  intro n
  induction n with
  | zero => intro m a b h; exact ⟨b, h, rfl⟩
  | succ n ih => rintro m a b ⟨d, h1, h2⟩; obtain ⟨c, k1, k2⟩ := ih h1; exact ⟨c, k1, d, k2, h2⟩
theorem nextT_turn {t u : Tr} (h : nextT t = some u) : Turn t u := by
  unfold nextT at h
  split at h
  · simp at h
  · next a _ _ => exact ⟨false, a.data.toList, h⟩
theorem wk_comb (n : Nat) : ∀ t : Tr, t.lw ≤ n → ∃ k, k ≤ t.lw ∧ Wk k t (combR8 t.carets) := by
  induction n with
  | zero =>
    intro t h
    cases g : nextT t with
    | none => exact ⟨0, Nat.zero_le _, nextT_none_comb g⟩
    | some u => have := nextT_lw g; omega
  | succ n ih =>
    intro t h
    cases g : nextT t with
    | none => exact ⟨0, Nat.zero_le _, nextT_none_comb g⟩
    | some u =>
      have h1 := nextT_lw g
      obtain ⟨k, hk1, hk⟩ := ih u (by omega)
      rw [nextT_carets g] at hk
      exact ⟨1 + k, by omega, (Wk.one (nextT_turn g)).trans hk⟩
theorem wk_ex9 {a b : Tr} (h : a.carets = b.carets) : ∃ n, n ≤ a.lw + b.lw ∧ Wk n a b := by
  obtain ⟨m, h1, hm⟩ := wk_comb _ a (Nat.le_refl _)
  obtain ⟨n, h2, hn⟩ := wk_comb _ b (Nat.le_refl _)
  rw [← h] at hn
  exact ⟨_, by omega, hm.trans hn.back⟩
theorem wk_ex {a b : Tr} (h : a.carets = b.carets) : ∃ n, Wk n a b := let ⟨n, _, hn⟩ := wk_ex9 h; ⟨n, hn⟩
theorem least_ex {P : Nat → Prop} (h : ∃ n, P n) : ∃ n, P n ∧ ∀ m, m < n → ¬ P m := by
  obtain ⟨n, hn⟩ := h
  induction n using Nat.strongRecOn with
  | _ n ih =>
    by_cases k : ∃ m, m < n ∧ P m
    · obtain ⟨m, h1, h2⟩ := k; exact ih m h1 h2
    · exact ⟨n, hn, fun m h1 h2 => k ⟨m, h1, h2⟩⟩
/-- The distance. -/
noncomputable def wkD (a b : Tr) : Nat := if h : a.carets = b.carets then Classical.choose (least_ex (wk_ex h)) else 0
theorem wkD_is {a b : Tr} (h : a.carets = b.carets) : Wk (wkD a b) a b ∧ ∀ m, m < wkD a b → ¬ Wk m a b := by
  unfold wkD; rw [dif_pos h]; exact Classical.choose_spec (least_ex (wk_ex h))

theorem wkD_le {a b : Tr} (h : a.carets = b.carets) : wkD a b ≤ a.lw + b.lw := by
  obtain ⟨n, h1, h2⟩ := wk_ex9 h
  rcases Nat.lt_or_ge n (wkD a b) with h3 | h3
  · exact absurd h2 ((wkD_is h).2 n h3)
  · omega
theorem wkD_le50 {a b : Tr} (h : a.carets = b.carets) (h5 : a.carets ≤ 5) : wkD a b ≤ 50 := by
  have h1 := wkD_le h
  have h2 := lw_le a
  have h3 := lw_le b
  have h4 : a.carets * a.carets ≤ 5 * 5 := Nat.mul_le_mul h5 h5
  rw [← h] at h3
  omega
/-- First reached with so many turns. -/
def Fst (n : Nat) (a b : Tr) : Prop := Wk n a b ∧ ∀ m, m < n → ¬ Wk m a b
theorem fst_some {a b : Tr} {d i : Nat} (h : Fst d a b) (hi : i ≤ d) : ∃ c, Fst i a c := by
  obtain ⟨n, rfl⟩ : ∃ n, d = i + n := ⟨d - i, by omega⟩
  obtain ⟨c, h1, h2⟩ := h.1.part
  exact ⟨c, h1, fun m hm k => h.2 (m + n) (by omega) (k.trans h2)⟩
theorem fst_succ {a t : Tr} {i : Nat} : Fst (i + 1) a t ↔ (∃ c, Fst i a c ∧ Turn c t) ∧ ∀ m, m ≤ i → ¬ Wk m a t := by
  constructor
  · rintro ⟨⟨c, h1, h2⟩, h3⟩
    exact ⟨⟨c, ⟨h1, fun m hm k => h3 (m + 1) (by omega) ⟨c, k, h2⟩⟩, h2⟩, fun m hm => h3 m (by omega)⟩
  · rintro ⟨⟨c, h1, h2⟩, h3⟩
    exact ⟨⟨c, h1.1, h2⟩, fun m hm => h3 m (by omega)⟩

theorem nodup_sub_len {α : Type} : ∀ {l m : List α}, l.Pairwise (· ≠ ·) → (∀ x ∈ l, x ∈ m) → l.length ≤ m.length := by
  intro l
  induction l with
  | nil => intro m _ _; simp
  | cons a l ih =>
    intro m h hs
    rw [List.pairwise_cons] at h
    obtain ⟨p, q, rfl⟩ := List.append_of_mem (hs a (by simp))
    have := ih (m := p ++ q) h.2 (fun x hx => by
      have h1 := hs x (by simp [hx])
      simp only [List.mem_append, List.mem_cons] at h1 ⊢
      rcases h1 with h1 | h1 | h1
      · exact Or.inl h1
      · exact absurd h1.symm (h.1 x hx)
      · exact Or.inr h1)
    simp only [List.length_append, List.length_cons] at this ⊢
    omega
end Go.Proofs.Yteflpaebckichaa

/-! SpT -/
namespace Go.Proofs.Yteflpaebckichaa
open Go.RowKit

theorem ltP_A9 : ltP 1 = qA := by rfl
theorem ltP_A9' : ltP (-1) = invP qA := by rfl
theorem ltP_B9 : ltP 2 = qB := by rfl
theorem ltP_B9' : ltP (-2) = invP qB := by rfl
theorem phi_mul8 {x : Int} (h0 : x ≠ 0) (h1 : -2 ≤ x) (h2 : x ≤ 2) (p : Pr) : phi (mulP p (ltP x)) ≤ phi p + 1 := by
  have h := phi_red _ (rawP p (ltP x)) rfl
  have hx : x = 1 ∨ x = -1 ∨ x = 2 ∨ x = -2 := by omega
  unfold mulP
  rcases hx with rfl | rfl | rfl | rfl
  · rw [ltP_A9] at *; have := phi_A p; omega
  · rw [ltP_A9'] at *; have := phi_A' p; omega
  · rw [ltP_B9] at *; have := phi_B p; omega
  · rw [ltP_B9'] at *; have := phi_B' p; omega
theorem phi_mul9 {j : Nat} (hj : j < 4) (p : Pr) : phi (mulP p (ltP (fourL.getD j 0))) ≤ phi p + 1 := by
  obtain ⟨f1, f2, f3⟩ := fourL_get j hj
  exact phi_mul8 f1 f2 f3 p
theorem rch_phi {n : Nat} {p : Pr} (h : Rch gL n p) : phi p ≤ n + 2 := by
  induction n generalizing p with
  | zero =>
    obtain ⟨w, _, hl, rfl⟩ := h
    rw [List.length_eq_zero_iff.1 hl]; show phi idP ≤ 2; decide
  | succ n ih =>
    obtain ⟨q, x, h1, h2, rfl⟩ := h.last
    have hq := ih h1
    obtain ⟨j, hj, rfl⟩ := four_iff.1 h2
    rw [gL_four hj]
    have := phi_mul9 hj q
    omega
/-- Pairs of spheres are so small that their texts are read back. -/
theorem sphL_eight {n : Nat} (hn : n ≤ 6) {p : Pr} (h : SphL n p) : okP p ∧ p.1.carets ≤ 8 ∧ p.2.carets ≤ 8 := by
  have h1 := rch_phi h.1
  have h2 := h.1.ok gL_ok
  have h3 := h2
  unfold phi at h1
  unfold okP at h3
  exact ⟨h2, by omega, by omega⟩
theorem near_eight {n j : Nat} (hn : n ≤ 5) {q : Pr} (h : SphL n q) (hj : j < 4) : okP (mulP q (ltP (fourL.getD j 0))) ∧ (mulP q (ltP (fourL.getD j 0))).1.carets ≤ 8 ∧ (mulP q (ltP (fourL.getD j 0))).2.carets ≤ 8 := by
  have h1 := rch_phi h.1
  have h2 := phi_mul9 hj q
  have h3 := mulP_ok (h.1.ok gL_ok) (ltP_ok (fourL.getD j 0)).1
  have h4 := h3
  unfold phi at h1 h2
  unfold okP at h4
  exact ⟨h3, by omega, by omega⟩

/-- The pairs of a sphere in the order of their texts. -/
structure SphS (r : Nat) (P : List Pr) : Prop where
  inc : IncS (P.map pTx)
  mem : ∀ p, p ∈ P ↔ SphL r p
theorem map_getD9 {P : List Pr} {i : Nat} (h : i < P.length) : (P.map pTx).getD i ⟨#[]⟩ = pTx (P.getD i idP) := by
  simp [List.getD_eq_getElem?_getD, h]
theorem SphS.nd {r : Nat} {P : List Pr} (h : SphS r P) : P.Pairwise (· ≠ ·) := by
  rw [List.pairwise_iff_getElem]
  intro i j hi hj hij e
  have h1 := h.inc.lt hij (by simpa using hj)
  rw [map_getD9 hi, map_getD9 hj] at h1
  have e1 : P.getD i idP = P[i] := by simp [List.getD_eq_getElem?_getD, hi]
  have e2 : P.getD j idP = P[j] := by simp [List.getD_eq_getElem?_getD, hj]
  rw [e1, e2, e] at h1
  exact ltB_irrefl _ h1
theorem SphS.len {r : Nat} {P : List Pr} (h : SphS r P) (hr : r ≤ 5) : P.length ≤ 1365 :=
  Nat.le_trans (nodup_sub_len h.nd (fun p hp => sph_list ((h.mem p).1 hp))) (sphList_len hr)
theorem SphS.zero : SphS 0 [idP] := ⟨fun i j hi hj => by simp at hj; omega, fun p => by
  rw [List.mem_singleton]; exact sph_zero.symm⟩
theorem mem_pTx {r : Nat} {P : List Pr} (h : SphS r P) (hr : r ≤ 5) {p : Pr} (h1 : okP p) (h2 : p.1.carets ≤ 8) : pTx p ∈ P.map pTx ↔ SphL r p := by
  rw [List.mem_map, ← h.mem]
  constructor
  · rintro ⟨q, hq, e⟩
    obtain ⟨k1, k2, _⟩ := sphL_eight (show r ≤ 6 by omega) ((h.mem q).1 hq)
    rw [← pTx_inj9 k1 k2 h1 h2 e]; exact hq
  · exact fun hp => ⟨p, hp, rfl⟩
/-- The texts of products of the first so many with letters, and of the next one with its first m letters. -/
def nextS (P : List Pr) (j m : Nat) : List ByteArray := ((P.take j).flatMap fun q => fourL.map fun x => pTx (mulP q (ltP x))) ++ (fourL.map fun x => pTx (mulP (P.getD j idP) (ltP x))).take m
theorem nextS_zero (P : List Pr) : nextS P 0 0 = [] := by simp [nextS]
theorem nextS_len (P : List Pr) (j m : Nat) : (nextS P j m).length ≤ 4 * P.length + 4 := by
  unfold nextS
  have h : ∀ Q : List Pr, (Q.flatMap fun q => fourL.map fun x => pTx (mulP q (ltP x))).length = 4 * Q.length := by
    intro Q
    induction Q with
    | nil => rfl
    | cons a L ih => simp only [List.flatMap_cons, List.length_append, List.length_map, List.length_cons]; rw [ih]; simp [fourL]; omega
  rw [List.length_append, h, List.length_take, List.length_take, List.length_map]
  show 4 * min j P.length + min m 4 ≤ _
  omega
theorem nextS_letter {P : List Pr} {j m : Nat} (hm : m < 4) : nextS P j (m + 1) = nextS P j m ++ [pTx (mulP (P.getD j idP) (ltP (fourL.getD m 0)))] := by
  unfold nextS
  rw [List.append_assoc]
  congr 1
  match m, hm with
  | 0, _ => rfl
  | 1, _ => rfl
  | 2, _ => rfl
  | 3, _ => rfl
theorem nextS_next {P : List Pr} {j : Nat} (hj : j < P.length) : nextS P j 4 = nextS P (j + 1) 0 := by
  unfold nextS
  rw [List.take_succ_eq_append_getElem hj, List.flatMap_append]
  simp [List.getD_eq_getElem?_getD, hj, fourL]
theorem nextS_mem {P : List Pr} (x : ByteArray) : x ∈ nextS P P.length 0 ↔ ∃ q i, q ∈ P ∧ i < 4 ∧ x = pTx (mulP q (ltP (fourL.getD i 0))) := by
  unfold nextS
  rw [List.take_length, List.take_zero, List.append_nil, List.mem_flatMap]
  constructor
  · rintro ⟨q, hq, hx⟩
    rw [List.mem_map] at hx
    obtain ⟨y, hy, rfl⟩ := hx
    obtain ⟨i, hi, e⟩ := List.mem_iff_getElem.1 hy
    exact ⟨q, i, hq, hi, by have : fourL.getD i 0 = y := by simp [List.getD_eq_getElem?_getD, hi, e]
                            rw [this]⟩
  · rintro ⟨q, i, hq, hi, rfl⟩
    refine ⟨q, hq, ?_⟩
    have hi' : i < fourL.length := hi
    exact List.mem_map.2 ⟨fourL.getD i 0, by simp [List.getD_eq_getElem?_getD, hi'], rfl⟩
/-- Of the first j texts those that are not kept out. -/
def keepS (out : ByteArray → Bool) (S : List ByteArray) (j : Nat) : List ByteArray := (S.take j).filter fun x => !out x
theorem keepS_succ (out : ByteArray → Bool) {S : List ByteArray} {j : Nat} (h : j < S.length) : keepS out S (j + 1) = keepS out S j ++ (if out (S.getD j ⟨#[]⟩) = true then [] else [S.getD j ⟨#[]⟩]) := by
  unfold keepS
  rw [take_snocS h, List.filter_append]
  congr 1
  by_cases h9 : out (S.getD j ⟨#[]⟩) = true
  · rw [if_pos h9]; simp only [List.filter_cons, h9, List.filter_nil]; rfl
  · rw [if_neg h9]; simp only [Bool.not_eq_true] at h9; simp only [List.filter_cons, h9, List.filter_nil]; rfl
theorem keepS_len (out : ByteArray → Bool) (S : List ByteArray) (j : Nat) : (keepS out S j).length ≤ S.length := Nat.le_trans (List.length_filter_le _ _) (by rw [List.length_take]; omega)
theorem inc_iff {S : List ByteArray} : IncS S ↔ S.Pairwise ltB := by
  rw [List.pairwise_iff_getElem]
  constructor
  · intro h i j hi hj hij
    have := h.lt hij hj
    simpa [List.getD_eq_getElem?_getD, hi, hj] using this
  · intro h i j hij hj
    have := h i j (by omega) hj hij
    show ltB _ _
    simpa [List.getD_eq_getElem?_getD, show i < S.length by omega, hj] using this
theorem keepS_inc (out : ByteArray → Bool) {S : List ByteArray} (h : IncS S) (j : Nat) : IncS (keepS out S j) := by
  rw [inc_iff] at *
  exact (h.sublist (List.take_sublist _ _)).filter _
/-- The next sphere. -/
theorem sphS_next {r : Nat} (hr : r ≤ 4) {P : List Pr} (hP : SphS r P) {out : ByteArray → Bool} (ho : ∀ p, okP p → p.1.carets ≤ 8 → p.2.carets ≤ 8 → (out (pTx p) = true ↔ SphL r p ∨ befL r p)) {S : List ByteArray} (hS : IncS S) (hm : ∀ x, x ∈ S ↔ x ∈ nextS P P.length 0) : ∃ Q, SphS (r + 1) Q ∧ Q.map pTx = keepS out S S.length := by
  have hback : ∀ x ∈ S, ∃ p, (okP p ∧ p.1.carets ≤ 8 ∧ p.2.carets ≤ 8) ∧ Near4 (SphL r) p ∧ x = pTx p := by
    intro x hx
    obtain ⟨q, i, hq, hi, rfl⟩ := (nextS_mem x).1 ((hm x).1 hx)
    have hq' := (hP.mem q).1 hq
    exact ⟨_, near_eight (by omega) hq' hi, ⟨q, i, hq', hi, rfl⟩, rfl⟩
  have hcut : ∀ x ∈ S, pTx ((cutP x).getD idP) = x := by
    intro x hx
    obtain ⟨p, ⟨h1, h2, _⟩, _, rfl⟩ := hback x hx
    rw [cut_pTx9 h1 h2]; rfl
  have hQ : ((keepS out S S.length).map fun x => (cutP x).getD idP).map pTx = keepS out S S.length := by
    rw [List.map_map]
    conv => rhs; rw [← List.map_id (keepS out S S.length)]
    refine List.map_congr_left fun x hx => hcut x ?_
    unfold keepS at hx
    rw [List.take_length] at hx
    exact (List.mem_filter.1 hx).1
  refine ⟨(keepS out S S.length).map fun x => (cutP x).getD idP, ⟨by rw [hQ]; exact keepS_inc out hS _, fun p => ?_⟩, hQ⟩
  have hstep : SphL (r + 1) p ↔ Near4 (SphL r) p ∧ ¬ SphL r p ∧ ¬ befL r p := by
    show Sph gL (r + 1) p ↔ _
    rw [sph_step gL_ok gL_neg, near_iff]
    refine and_congr_right fun _ => and_congr_right fun _ => ⟨fun h ⟨m, e, k⟩ => h m e k, fun h m e k => h ⟨m, e, k⟩⟩
  rw [hstep, List.mem_map]
  unfold keepS
  rw [List.take_length]
  constructor
  · rintro ⟨x, hx, rfl⟩
    obtain ⟨hx1, hx2⟩ := List.mem_filter.1 hx
    obtain ⟨p, ⟨h1, h2, h3⟩, h4, rfl⟩ := hback x hx1
    rw [cut_pTx9 h1 h2]
    have h5 := ho p h1 h2 h3
    simp only [Option.getD_some]
    refine ⟨h4, fun h => ?_, fun h => ?_⟩
    · rw [h5.2 (Or.inl h)] at hx2; simp at hx2
    · rw [h5.2 (Or.inr h)] at hx2; simp at hx2
  · rintro ⟨⟨q, i, h1, h2, rfl⟩, h3, h4⟩
    obtain ⟨k1, k2, k3⟩ := near_eight (show r ≤ 5 by omega) h1 h2
    refine ⟨pTx (mulP q (ltP (fourL.getD i 0))), List.mem_filter.2 ⟨(hm _).2 ((nextS_mem _).2 ⟨q, i, (hP.mem q).2 h1, h2, rfl⟩), ?_⟩, by rw [cut_pTx9 k1 k2]; rfl⟩
    cases h9 : out (pTx (mulP q (ltP (fourL.getD i 0)))) with
    | false => rfl
    | true =>
      rcases (ho _ k1 k2 k3).1 h9 with h | h
      · exact absurd h h3
      · exact absurd h h4
end Go.Proofs.Yteflpaebckichaa

/-! Ls2 -/
namespace Go.Proofs.Yteflpaebckichaa
open Go.RowKit

/-- The texts of a list in order, each once. -/
def GivesSort (base : Nat) (ss : List ByteArray) (w : World) (e : Ending) (w' : World) : Prop := ∃ v S, ReadS base w' v S ∧ IncS S ∧ (∀ x, x ∈ S ↔ x ∈ ss) ∧ S.length ≤ ss.length ∧ Below w.heap.size w w' ∧ e = .returned v

set_option maxRecDepth 100000 in
set_option maxHeartbeats 40000000 in
theorem lnSort_any (base : Nat) : ∀ (n : Nat) (ss : List ByteArray), ss.length = n → n ≤ 6000 → ∀ (v : Value) (w : World), base ≤ w.heap.size → ReadS base w v ss →
    Calls Try.prog 42 #[v] w (GivesSort base ss w) := by
  obtain ⟨i0, hi, hz0, hz1, hz2⟩ := info_parts info_str
  intro n
  induction n using Nat.strongRecOn with
  | _ n IH =>
    intro ss hn hn9 v w hbs hv
    by_cases h2 : n < 2
    · have hv0 := Lib.hid hv
      obtain ⟨oa, cap, rfl, h3, h4, h5⟩ := hv
      rw [hn] at h3 hv0 ⊢
      have hlt : (n : Int) < 2 := by omega
      clear h5 IH
      have HN := Lib.hid hn
      clear hn
      go_enter Try.func42, Try.ntmps42
      go_wp2_with fail
      go_ret
      exact ⟨_, ss, hv0.out, fun i j hi hj => by have := HN.out; omega, fun _ => Iff.rfl, Nat.le_refl _, Below.refl _ _, rfl⟩
    · have hlt : ¬ (n : Int) < 2 := by omega
      obtain ⟨h, hh⟩ : ∃ h, h = n / 2 := ⟨_, rfl⟩
      have hh1 : 1 ≤ h := by omega
      have hh2 : h < n := by omega
      have eq2 : (n : Int).tdiv 2 = (h : Int) := by rw [hh, Int.tdiv_eq_ediv_of_nonneg (by omega)]; omega
      have hwr : IntKind.i64.wrap (h : Int) = (h : Int) := by rw [IntKind.wrap_i64]; omega
      have R1 : ∀ v w, base ≤ w.heap.size → ReadS base w v (ss.take h) → Calls Try.prog 42 #[v] w (GivesSort base (ss.take h) w) := fun v w hb hv => IH h (by omega) (ss.take h) (by rw [List.length_take]; omega) (by omega) v w hb hv
      have R2 : ∀ v w, base ≤ w.heap.size → ReadS base w v (ss.drop h) → Calls Try.prog 42 #[v] w (GivesSort base (ss.drop h) w) := fun v w hb hv => IH (n - h) (by omega) (ss.drop h) (by rw [List.length_drop]; omega) (by omega) v w hb hv
      clear IH
      obtain ⟨oa, cap, rfl, h3, h4, h5⟩ := hv
      obtain ⟨g, q, rfl, hbg, hg, _⟩ := h5 0 (by omega)
      have V1 : ReadS base w (.slice (some ⟨g, q, none⟩) h cap) (ss.take h) := ⟨_, cap, by rw [List.length_take, Nat.min_eq_left (by omega)], by rw [List.length_take]; omega, h4, fun i hi => by
        rw [List.length_take] at hi
        obtain ⟨g', q', e, hk', hg', hc⟩ := h5 i (by omega)
        exact ⟨g', q', e, hk', hg', by rw [take_getD (by omega) (by omega)]; exact hc⟩⟩
      have V2 : ReadS base w (.slice (some ⟨g, q + h, none⟩) (n - h) (cap - h)) (ss.drop h) := ⟨_, cap - h, by rw [List.length_drop, hn], by rw [List.length_drop]; omega, by omega, fun i hi => by
        rw [List.length_drop] at hi
        obtain ⟨g', q', e, hk', hg', hc⟩ := h5 (h + i) (by omega)
        injection e with e
        injection e with e1 e2
        subst e1 e2
        exact ⟨g, q + h, rfl, hk', hg', by rw [drop_getD, Nat.add_assoc]; exact hc⟩⟩
      rw [hn] at h3 ⊢
      unfold maxLen at h4
      have HV1 := Lib.hid V1
      have HV2 := Lib.hid V2
      have HN := Lib.hid hn
      have hcn : ¬ cap = h := by omega
      have hch : (h : Int) ≤ (cap : Int) := by omega
      have h0h : (0 : Int) ≤ (h : Int) := by omega
      have h63 : (n : Int) ≤ 6000 := by omega
      have hh3 : (h : Int) ≤ (n : Int) := by omega
      clear V1 V2 hn h5 hh
      go_enter Try.func42, Try.ntmps42
      go_wp2_with fail
      have hzr := Below.refl w.heap.size w
      refine wp_region_held_drew (S := (fun w' : World => 0 ≤ w'.heap.size)) (by kernel_rfl) (Nat.zero_le _) (fun hH0 => ?_)
      refine wpAnyH_take (i := 0) (oi := ?oi201) (v := ?vv201) ?hi201 ?hn201 ?hf201 ?hr201 ?hq201 (Or.inl ⟨?hg201, ?hy201⟩) hH0 ?rest201
      case hi201 => (simp only [List.getElem?_toArray, List.getElem?_cons_zero]; rfl)
      case hn201 => kernel_rfl
      case hf201 => kernel_rfl
      case hr201 => kernel_rfl
      case hg201 => rfl
      case hy201 => (intro w hSw; (try dsimp only at hSw); go_simp; first | done | with_reducible rfl)
      case hq201 => exact fun _ _ _ h => h
      try dsimp only [Act.put]
      refine wpAnyH_take (i := 1) (oi := ?oi202) (v := ?vv202) ?hi202 ?hn202 ?hf202 ?hr202 ?hq202 (Or.inl ⟨?hg202, ?hy202⟩) hH0 ?rest202
      case hi202 => (simp only [List.getElem?_toArray, List.getElem?_cons_succ, List.getElem?_cons_zero]; rfl)
      case hn202 => kernel_rfl
      case hf202 => kernel_rfl
      case hr202 => kernel_rfl
      case hg202 => rfl
      case hy202 => (intro w hSw; (try dsimp only at hSw); go_simp; first | done | with_reducible rfl)
      case hq202 => exact fun _ _ _ h => h
      try dsimp only [Act.put]
      refine wpAnyH_take (i := 2) (oi := ?oi203) (v := ?vv203) ?hi203 ?hn203 ?hf203 ?hr203 ?hq203 (Or.inl ⟨?hg203, ?hy203⟩) hH0 ?rest203
      case hi203 => (simp only [List.getElem?_toArray, List.getElem?_cons_succ, List.getElem?_cons_zero]; rfl)
      case hn203 => kernel_rfl
      case hf203 => kernel_rfl
      case hr203 => kernel_rfl
      case hg203 => rfl
      case hy203 => (intro w hSw; (try dsimp only at hSw); go_simp; first | done | with_reducible rfl)
      case hq203 => exact fun _ _ _ h => h
      try dsimp only [Act.put]
      refine wpAnyH_take (i := 3) (oi := ?oi204) (v := ?vv204) ?hi204 ?hn204 ?hf204 ?hr204 ?hq204 (Or.inl ⟨?hg204, ?hy204⟩) hH0 ?rest204
      case hi204 => (simp only [List.getElem?_toArray, List.getElem?_cons_succ, List.getElem?_cons_zero]; rfl)
      case hn204 => kernel_rfl
      case hf204 => kernel_rfl
      case hr204 => kernel_rfl
      case hg204 => rfl
      case hy204 => (intro w hSw; (try dsimp only at hSw); go_simp; first | done | with_reducible rfl)
      case hq204 => exact fun _ _ _ h => h
      try dsimp only [Act.put]
      refine wpAnyH_take (i := 4) (oi := ?oi205) (v := ?vv205) ?hi205 ?hn205 ?hf205 ?hr205 ?hq205 (Or.inl ⟨?hg205, ?hy205⟩) hH0 ?rest205
      case hi205 => (simp only [List.getElem?_toArray, List.getElem?_cons_succ, List.getElem?_cons_zero]; rfl)
      case hn205 => kernel_rfl
      case hf205 => kernel_rfl
      case hr205 => kernel_rfl
      case hg205 => rfl
      case hy205 => (intro w hSw; (try dsimp only at hSw); go_simp; first | done | with_reducible rfl)
      case hq205 => exact fun _ _ _ h => h
      try dsimp only [Act.put]
      refine wpAnyH_take (i := 6) (oi := ?oi206) (v := ?vv206) ?hi206 ?hn206 ?hf206 ?hr206 ?hq206 (Or.inl ⟨?hg206, ?hy206⟩) hH0 ?rest206
      case hi206 => (simp only [List.getElem?_toArray, List.getElem?_cons_succ, List.getElem?_cons_zero]; rfl)
      case hn206 => kernel_rfl
      case hf206 => kernel_rfl
      case hr206 => kernel_rfl
      case hg206 => rfl
      case hy206 => (intro w hSw; (try dsimp only at hSw); go_simp; first | done | with_reducible rfl)
      case hq206 => exact fun _ _ _ h => h
      try dsimp only [Act.put]
      refine wpAnyH_take (i := 7) (oi := ?oi207) (v := ?vv207) ?hi207 ?hn207 ?hf207 ?hr207 ?hq207 (Or.inl ⟨?hg207, ?hy207⟩) hH0 ?rest207
      case hi207 => (simp only [List.getElem?_toArray, List.getElem?_cons_succ, List.getElem?_cons_zero]; rfl)
      case hn207 => kernel_rfl
      case hf207 => kernel_rfl
      case hr207 => kernel_rfl
      case hg207 => rfl
      case hy207 => (intro w hSw; (try dsimp only at hSw); go_simp; first | done | with_reducible rfl)
      case hq207 => exact fun _ _ _ h => h
      try dsimp only [Act.put]
      refine wpAnyH_take (i := 8) (oi := ?oi208) (v := ?vv208) ?hi208 ?hn208 ?hf208 ?hr208 ?hq208 (Or.inl ⟨?hg208, ?hy208⟩) hH0 ?rest208
      case hi208 => (simp only [List.getElem?_toArray, List.getElem?_cons_succ, List.getElem?_cons_zero]; rfl)
      case hn208 => kernel_rfl
      case hf208 => kernel_rfl
      case hr208 => kernel_rfl
      case hg208 => rfl
      case hy208 => (intro w hSw; (try dsimp only at hSw); go_simp; first | done | with_reducible rfl)
      case hq208 => exact fun _ _ _ h => h
      try dsimp only [Act.put]
      refine wpAnyH_take (i := 9) (oi := ?oi209) (v := ?vv209) ?hi209 ?hn209 ?hf209 ?hr209 ?hq209 (Or.inl ⟨?hg209, ?hy209⟩) hH0 ?rest209
      case hi209 => (simp only [List.getElem?_toArray, List.getElem?_cons_succ, List.getElem?_cons_zero]; rfl)
      case hn209 => kernel_rfl
      case hf209 => kernel_rfl
      case hr209 => kernel_rfl
      case hg209 => rfl
      case hy209 => (intro w hSw; (try dsimp only at hSw); go_simp; first | done | with_reducible rfl)
      case hq209 => exact fun _ _ _ h => h
      try dsimp only [Act.put]
      refine wpAnyH_take (i := 10) (oi := ?oi210) (v := ?vv210) ?hi210 ?hn210 ?hf210 ?hr210 ?hq210 (Or.inl ⟨?hg210, ?hy210⟩) hH0 ?rest210
      case hi210 => (simp only [List.getElem?_toArray, List.getElem?_cons_succ, List.getElem?_cons_zero]; rfl)
      case hn210 => kernel_rfl
      case hf210 => kernel_rfl
      case hr210 => kernel_rfl
      case hg210 => rfl
      case hy210 => (intro w hSw; (try dsimp only at hSw); go_simp; first | done | with_reducible rfl)
      case hq210 => exact fun _ _ _ h => h
      try dsimp only [Act.put]
      refine held_one 5 rfl (by kernel_rfl) (fun K hK => ?_)
      go_simp
      refine (R1 _ _ (Nat.le_trans hbs hzr.drew.size) (ReadS.keep HV1.out hzr.drew)).mono ?_; rintro e w21 ⟨va, A, ra, hAi, hAm, hAl, hb21, rfl⟩
      have hb21' := nx hzr.drew hb21
      go_wp2_with fail
      have hH1 : (fun w' : World => 0 ≤ w'.heap.size) _ := Nat.zero_le w21.heap.size
      refine hK.out (fun w' : World => 0 ≤ w'.heap.size) _ _ (fun _ h => h) hH1 ?_
      clear hK K
      try dsimp only [Act.put]
      refine held_one 11 rfl (by kernel_rfl) (fun K hK => ?_)
      go_simp
      refine (R2 _ _ (Nat.le_trans hbs hb21'.size) (ReadS.keep HV2.out hb21')).mono ?_; rintro e w22 ⟨vb, B, rb, hBi, hBm, hBl, hb22, rfl⟩
      have hb22' := nx hb21' hb22
      replace ra := ReadS.keep ra hb22
      go_wp2_with fail
      have hH2 : (fun w' : World => 0 ≤ w'.heap.size) _ := Nat.zero_le w22.heap.size
      refine hK.out (fun w' : World => 0 ≤ w'.heap.size) _ _ (fun _ h => h) hH2 ?_
      clear hK K
      try dsimp only [Act.put]
      refine wpAnyH_take (i := 12) (oi := ?oi211) (v := ?vv211) ?hi211 ?hn211 ?hf211 ?hr211 ?hq211 (Or.inl ⟨?hg211, ?hy211⟩) hH2 ?rest211
      case hi211 => (simp only [List.getElem?_toArray, List.getElem?_cons_succ, List.getElem?_cons_zero]; rfl)
      case hn211 => kernel_rfl
      case hf211 => kernel_rfl
      case hr211 => kernel_rfl
      case hg211 => rfl
      case hy211 => (intro w hSw; (try dsimp only at hSw); go_simp; first | done | with_reducible rfl)
      case hq211 => exact fun _ _ _ h => h
      try dsimp only [Act.put]
      refine wpAnyH_take (i := 13) (oi := ?oi212) (v := ?vv212) ?hi212 ?hn212 ?hf212 ?hr212 ?hq212 (Or.inl ⟨?hg212, ?hy212⟩) hH2 ?rest212
      case hi212 => (simp only [List.getElem?_toArray, List.getElem?_cons_succ, List.getElem?_cons_zero]; rfl)
      case hn212 => kernel_rfl
      case hf212 => kernel_rfl
      case hr212 => kernel_rfl
      case hg212 => rfl
      case hy212 => (intro w hSw; (try dsimp only at hSw); go_simp; first | done | with_reducible rfl)
      case hq212 => exact fun _ _ _ h => h
      try dsimp only [Act.put]
      refine wpAnyH_done (by kernel_rfl) ?_ _
      simp only [List.setIfInBounds_toArray, List.set_cons_zero, List.set_cons_succ]
      obtain ⟨oa1, c1, rfl, p1, p2, p3⟩ := ra
      obtain ⟨oa2, c2, rfl, p4, p5, p6⟩ := rb
      rw [List.length_take] at hAl
      rw [List.length_drop, HN.out] at hBl
      have hfinm : ∀ O : List ByteArray, Mg A B A.length B.length O → IncS O ∧ (∀ x, x ∈ O ↔ x ∈ ss) ∧ O.length ≤ ss.length := fun O hO => by
        have h9 := hO.done
        refine ⟨h9.1, fun x => ?_, by have := hO.len; rw [HN.out]; omega⟩
        rw [h9.2 x, hAm x, hBm x, ← List.mem_append, List.take_append_drop]
      have HFM := Lib.hid hfinm
      have hnewA := fun a b O (hO : Mg A B a b O) ha hs hn => hO.new hAi hBi ha hs hn
      have hnewB := fun a b O (hO : Mg A B a b O) hb hs hn => (hO.swap.new hBi hAi hb hs hn).swap
      have HNA := Lib.hid hnewA
      have HNB := Lib.hid hnewB
      have hstart := Mg.start A B
      unfold maxLen at p2 p5
      have HA := Lib.hid p3
      have HB := Lib.hid p6
      obtain ⟨h', hh'⟩ : ∃ h', h' = A.length := ⟨_, rfl⟩
      obtain ⟨m, hm⟩ : ∃ m, m = B.length := ⟨_, rfl⟩
      rw [← hm] at p4 ⊢
      rw [← hh'] at p1 ⊢
      have hh9 : h' ≤ h := by omega
      have hm9 : m ≤ n - h := by omega
      have HH := Lib.hid hh'
      have HM := Lib.hid hm
      clear hm hh' p3 p6 hb21 hb22 hb21' hzr R1 R2 HV1 HV2 h3 h4 hcn hch hwr eq2 hAi hBi hAm hBm hAl hBl hfinm hnewA hnewB
      go_wp2_with fail
      go_loopw [5, 6, 7] (fun u i j wr => ∃ (a b : Nat) (O : List ByteArray), a ≤ h' ∧ b ≤ m ∧ i = .int .i64 (a : Int) ∧ j = .int .i64 (b : Int) ∧ OwnS w22.heap.size wr u O ∧ Below w22.heap.size w22 wr ∧ (O = [] → u = .slice none 0 0) ∧ Hid (Mg A B a b O)) (fun _ i j _ => n - ((intOf i).toNat + (intOf j).toNat))
      case atStart => exact ⟨0, 0, [], Nat.zero_le _, Nat.zero_le _, rfl, rfl, OwnS.nil _ _, Below.refl _ _, fun _ => rfl, hstart⟩
      case round =>
        clear hstart
        obtain ⟨a, b, O, ha, hb, rfl, rfl, hown, hbw, hu0, hMg⟩ := hrel
        have hOl : O.length ≤ a + b := hMg.out.len
        by_cases hlt1 : a < h'
        · obtain ⟨g1, q1, rfl, _, hg1, a1⟩ := HA.out a (by rw [← HH.out]; exact hlt1)
          have k1 := (hbw.cell (p := ⟨g1, q1 + a, none⟩) hg1).trans a1
          have hgr1 : g1 < wr.heap.size := Nat.lt_of_lt_of_le hg1 hbw.size
          have hi1 : (a : Int) < (h' : Int) := by omega
          have haA : a < A.length := by rw [← HH.out]; exact hlt1
          obtain ⟨X, hX⟩ : ∃ X, X = A.getD a ⟨#[]⟩ := ⟨_, rfl⟩
          rw [← hX] at k1
          by_cases hlt2 : b < m
          · obtain ⟨g2, q2, rfl, _, hg2, b1⟩ := HB.out b (by rw [← HM.out]; exact hlt2)
            have k2 := (hbw.cell (p := ⟨g2, q2 + b, none⟩) hg2).trans b1
            have hgr2 : g2 < wr.heap.size := Nat.lt_of_lt_of_le hg2 hbw.size
            have hj1 : ¬ (b : Int) = (m : Int) := by omega
            have hj2 : (b : Int) < (m : Int) := by omega
            have hbB : b < B.length := by rw [← HM.out]; exact hlt2
            obtain ⟨Y, hY⟩ : ∃ Y, Y = B.getD b ⟨#[]⟩ := ⟨_, rfl⟩
            rw [← hY] at k2
            clear a1 b1 hlt2
            by_cases hle0 : ltB Y X
            · have hs : a < A.length → ¬ ltB (A.getD a ⟨#[]⟩) (B.getD b ⟨#[]⟩) := fun _ h => ltB_irrefl _ (ltB_trans h (by rw [← hX, ← hY]; exact hle0))
              have hNW := fun hn => HNB.out a b O hMg.out hbB hs hn
              have hOD := fun hp hn => (hMg.out.swap.old hbB hp hn).swap
              rw [← hY] at hNW hOD
              have hle : ∀ w, (binOp BinOp.leq 9 (.string X) (.string Y)).run Try.prog w = .ok (.bool false) w := fun w => by
                have e : (binOp BinOp.leq 9 (.string X) (.string Y)).run Try.prog w = .ok (.bool (Go.Op.bytesLess X.toList Y.toList || X.toList == Y.toList)) w := rfl
                have e2 : Go.Op.bytesLess X.toList Y.toList = false := by cases h9 : Go.Op.bytesLess X.toList Y.toList with | false => rfl | true => exact absurd (ltB_trans (show ltB X Y from h9) hle0) (ltB_irrefl _)
                have e3 : (X.toList == Y.toList) = false := beq_false_of_ne (fun h9 => by unfold ltB at hle0; rw [h9, bytesLess_irr] at hle0; cases hle0)
                rw [e, e2, e3]
                rfl
              have HNW := Lib.hid hNW
              have HOD := Lib.hid hOD
              clear hNW hOD hs hX hY hle0 hMg haA hbB hlt1
              by_cases hO : O = []
              · subst hO
                obtain rfl := hu0 rfl
                have hM1 := Lib.hid (HNW.out (Or.inl rfl))
                clear hu0 HNW HOD
                go_wp2_with fail
                refine wp_region_cls (by kernel_rfl) (by kernel_rfl) ?_
                repeat (
                  refine wpQuiet_step (fun K hK => ?_)
                  go_simp
                  first
                    | (refine hK _ ?_; clear hK K)
                    | (refine ⟨_, fun _ _ => rfl, hK _ ?_⟩; clear hK K)
                    | (apply Exists.intro
                       refine ⟨fun w' hw' => ?_, hK _ ?_⟩
                       · first
                           | (rw [hw'.cell hgr1 k1]; exact ⟨rfl, rfl⟩)
                           | (rw [hw'.cell hgr2 k2]; exact ⟨rfl, rfl⟩)
                           | (rw [hle]; exact ⟨rfl, rfl⟩)
                       clear hK K))
                refine wpQuiet_nil ?_
                intro w' hw'
                have hbw2 := nx hbw hw'
                have hsz2 := hbw2.size
                have hown2 := OwnS.keep hown hw'
                have k8 := (Below.cell (p := ⟨g2, q2 + b, none⟩) hw' hgr2).trans k2
                clear k1 hgr1 k2 hgr2 hle hown hbw hw'
                unfold OwnS at hown2
                go_wp2_with (at_builtin; go_loud (refine wpList_append_own _ rfl _ _ 46 rfl w22.heap.size 9 i0 (.string ⟨#[]⟩) 1 16 Try.underlying46 hi hz0 hz1 hz2 rfl (by decide) _ _ _ rfl (hown2.alloc _) ⟨_, 0, none⟩ 1 1 [.string Y] rfl rfl (new1 _ _ _) (one_str7 _) (by rw [List.length_nil]; unfold maxLen; omega) (by rw [List.length_nil]; omega) (by simp; omega) ?_); intro v' w9 hown' hgrow hnn)
                have hbw9 := below_app hbw2 hown2 (Nat.le_refl _) hgrow
                have hown1 : OwnS w22.heap.size w9 v' ([] ++ [Y]) := OwnS.one5 hown'
                clear hown2 hown' hgrow hbw2 hnn
                go_wp2_with fail
                go_roundw
                case rel => exact ⟨a, b + 1, _, by omega, by omega, by go_num, by go_num, hown1, hbw9, fun h => by simp at h, hM1⟩
                case measure => simp [intOf]; omega
              by_cases hps : O.getD (O.length - 1) ⟨#[]⟩ = Y
              · have hM1 := Lib.hid (HOD.out (List.length_pos_iff.2 hO) hps)
                clear HNW HOD
                clear hu0
                obtain ⟨L, hL⟩ : ∃ L, L = O.length := ⟨_, rfl⟩
                have hL0 : 0 < L := by rw [hL]; exact List.length_pos_iff.2 hO
                rw [← hL] at hOl hps
                rcases hown.cells with ⟨_, h0⟩ | ⟨g5, cap5, rfl, hb5, hg5, q5, q6, hx5, hf5⟩
                · exact absurd h0 hO
                have k5 := hx5 (L - 1) (by omega)
                obtain ⟨PP, hPP⟩ : ∃ PP, PP = O.getD (L - 1) ⟨#[]⟩ := ⟨_, rfl⟩
                rw [← hPP] at k5 hps
                have ew : IntKind.i64.wrap ((L : Nat) - 1 : Int) = ((L - 1 : Nat) : Int) := by rw [IntKind.wrap_i64]; omega
                rw [← hL] at q5 hown ⊢
                have HOL : Hid (O.length = L) := Lib.hid hL.symm
                unfold maxLen at q6
                clear hx5 hf5 hL hPP
                have hnb : (PP.toList == Y.toList) = true := by rw [hps]; simp
                clear hps
                go_wp2_with fail
                refine wp_region_cls (by kernel_rfl) (by kernel_rfl) ?_
                repeat (
                  refine wpQuiet_step (fun K hK => ?_)
                  go_simp
                  first
                    | (refine hK _ ?_; clear hK K)
                    | (refine ⟨_, fun _ _ => rfl, hK _ ?_⟩; clear hK K)
                    | (apply Exists.intro
                       refine ⟨fun w' hw' => ?_, hK _ ?_⟩
                       · first
                           | (rw [hw'.cell hgr1 k1]; exact ⟨rfl, rfl⟩)
                           | (rw [hw'.cell hgr2 k2]; exact ⟨rfl, rfl⟩)
                           | (rw [hle]; exact ⟨rfl, rfl⟩)
                       clear hK K))
                refine wpQuiet_nil ?_
                intro w' hw'
                have hbw2 := nx hbw hw'
                have hsz2 := hbw2.size
                have hown2 := OwnS.keep hown hw'
                have k8 := (Below.cell (p := ⟨g2, q2 + b, none⟩) hw' hgr2).trans k2
                have k9 := (Below.cell (p := ⟨g5, L - 1, none⟩) hw' hg5).trans k5
                clear k5
                clear k1 hgr1 k2 hgr2 hle hown hbw hw'
                go_wp2_with fail
                go_roundw
                case rel => exact ⟨a, b + 1, O, by omega, by omega, by go_num, by go_num, hown2, hbw2, fun h => absurd h hO, hM1⟩
                case measure => simp [intOf]; omega
              · have hM1 := Lib.hid (HNW.out (Or.inr hps))
                clear HNW HOD
                clear hu0
                obtain ⟨L, hL⟩ : ∃ L, L = O.length := ⟨_, rfl⟩
                have hL0 : 0 < L := by rw [hL]; exact List.length_pos_iff.2 hO
                rw [← hL] at hOl hps
                rcases hown.cells with ⟨_, h0⟩ | ⟨g5, cap5, rfl, hb5, hg5, q5, q6, hx5, hf5⟩
                · exact absurd h0 hO
                have k5 := hx5 (L - 1) (by omega)
                obtain ⟨PP, hPP⟩ : ∃ PP, PP = O.getD (L - 1) ⟨#[]⟩ := ⟨_, rfl⟩
                rw [← hPP] at k5 hps
                have ew : IntKind.i64.wrap ((L : Nat) - 1 : Int) = ((L - 1 : Nat) : Int) := by rw [IntKind.wrap_i64]; omega
                rw [← hL] at q5 hown ⊢
                have HOL : Hid (O.length = L) := Lib.hid hL.symm
                unfold maxLen at q6
                clear hx5 hf5 hL hPP
                have hnb : (PP.toList == Y.toList) = false := beq_false_of_ne (fun h => hps (ba_ext (by rw [← Lib.toList_data, ← Lib.toList_data]; exact h)))
                clear hps
                go_wp2_with fail
                refine wp_region_cls (by kernel_rfl) (by kernel_rfl) ?_
                repeat (
                  refine wpQuiet_step (fun K hK => ?_)
                  go_simp
                  first
                    | (refine hK _ ?_; clear hK K)
                    | (refine ⟨_, fun _ _ => rfl, hK _ ?_⟩; clear hK K)
                    | (apply Exists.intro
                       refine ⟨fun w' hw' => ?_, hK _ ?_⟩
                       · first
                           | (rw [hw'.cell hgr1 k1]; exact ⟨rfl, rfl⟩)
                           | (rw [hw'.cell hgr2 k2]; exact ⟨rfl, rfl⟩)
                           | (rw [hle]; exact ⟨rfl, rfl⟩)
                       clear hK K))
                refine wpQuiet_nil ?_
                intro w' hw'
                have hbw2 := nx hbw hw'
                have hsz2 := hbw2.size
                have hown2 := OwnS.keep hown hw'
                have k8 := (Below.cell (p := ⟨g2, q2 + b, none⟩) hw' hgr2).trans k2
                have k9 := (Below.cell (p := ⟨g5, L - 1, none⟩) hw' hg5).trans k5
                clear k5
                clear k1 hgr1 k2 hgr2 hle hown hbw hw'
                unfold OwnS at hown2
                go_wp2_with (at_builtin; go_loud (refine wpList_append_own _ rfl _ _ 46 rfl w22.heap.size 9 i0 (.string ⟨#[]⟩) 1 16 Try.underlying46 hi hz0 hz1 hz2 rfl (by decide) _ _ _ rfl (hown2.alloc _) ⟨_, 0, none⟩ 1 1 [.string Y] rfl rfl (new1 _ _ _) (one_str7 _) (by rw [HOL.out]; unfold maxLen; omega) (by rw [HOL.out]; omega) (by simp; omega) ?_); intro v' w9 hown' hgrow hnn)
                have hbw9 := below_app hbw2 hown2 (Nat.le_refl _) hgrow
                have hown1 : OwnS w22.heap.size w9 v' (O ++ [Y]) := OwnS.one5 hown'
                clear hown2 hown' hgrow hbw2 hnn
                go_wp2_with fail
                go_roundw
                case rel => exact ⟨a, b + 1, _, by omega, by omega, by go_num, by go_num, hown1, hbw9, fun h => by simp at h, hM1⟩
                case measure => simp [intOf]; omega
            · have hs : b < B.length → ¬ ltB (B.getD b ⟨#[]⟩) (A.getD a ⟨#[]⟩) := fun _ => by rw [← hX, ← hY]; exact hle0
              have hNW := fun hn => HNA.out a b O hMg.out haA hs hn
              have hOD := fun hp hn => hMg.out.old haA hp hn
              rw [← hX] at hNW hOD
              have hle : ∀ w, (binOp BinOp.leq 9 (.string X) (.string Y)).run Try.prog w = .ok (.bool true) w := fun w => by
                have e : (binOp BinOp.leq 9 (.string X) (.string Y)).run Try.prog w = .ok (.bool (Go.Op.bytesLess X.toList Y.toList || X.toList == Y.toList)) w := rfl
                have e2 : (Go.Op.bytesLess X.toList Y.toList || X.toList == Y.toList) = true := by
                  rcases ltB_tri X Y with h9 | h9 | h9
                  · rw [show Go.Op.bytesLess X.toList Y.toList = true from h9]; rfl
                  · rw [h9]; simp
                  · exact absurd h9 hle0
                rw [e, e2]
              have HNW := Lib.hid hNW
              have HOD := Lib.hid hOD
              clear hNW hOD hs hX hY hle0 hMg haA hbB hlt1
              by_cases hO : O = []
              · subst hO
                obtain rfl := hu0 rfl
                have hM1 := Lib.hid (HNW.out (Or.inl rfl))
                clear hu0 HNW HOD
                go_wp2_with fail
                refine wp_region_cls (by kernel_rfl) (by kernel_rfl) ?_
                repeat (
                  refine wpQuiet_step (fun K hK => ?_)
                  go_simp
                  first
                    | (refine hK _ ?_; clear hK K)
                    | (refine ⟨_, fun _ _ => rfl, hK _ ?_⟩; clear hK K)
                    | (apply Exists.intro
                       refine ⟨fun w' hw' => ?_, hK _ ?_⟩
                       · first
                           | (rw [hw'.cell hgr1 k1]; exact ⟨rfl, rfl⟩)
                           | (rw [hw'.cell hgr2 k2]; exact ⟨rfl, rfl⟩)
                           | (rw [hle]; exact ⟨rfl, rfl⟩)
                       clear hK K))
                refine wpQuiet_nil ?_
                intro w' hw'
                have hbw2 := nx hbw hw'
                have hsz2 := hbw2.size
                have hown2 := OwnS.keep hown hw'
                have k8 := (Below.cell (p := ⟨g1, q1 + a, none⟩) hw' hgr1).trans k1
                clear k1 hgr1 k2 hgr2 hle hown hbw hw'
                unfold OwnS at hown2
                go_wp2_with (at_builtin; go_loud (refine wpList_append_own _ rfl _ _ 46 rfl w22.heap.size 9 i0 (.string ⟨#[]⟩) 1 16 Try.underlying46 hi hz0 hz1 hz2 rfl (by decide) _ _ _ rfl (hown2.alloc _) ⟨_, 0, none⟩ 1 1 [.string X] rfl rfl (new1 _ _ _) (one_str7 _) (by rw [List.length_nil]; unfold maxLen; omega) (by rw [List.length_nil]; omega) (by simp; omega) ?_); intro v' w9 hown' hgrow hnn)
                have hbw9 := below_app hbw2 hown2 (Nat.le_refl _) hgrow
                have hown1 : OwnS w22.heap.size w9 v' ([] ++ [X]) := OwnS.one5 hown'
                clear hown2 hown' hgrow hbw2 hnn
                go_wp2_with fail
                go_roundw
                case rel => exact ⟨a + 1, b, _, by omega, by omega, by go_num, by go_num, hown1, hbw9, fun h => by simp at h, hM1⟩
                case measure => simp [intOf]; omega
              by_cases hps : O.getD (O.length - 1) ⟨#[]⟩ = X
              · have hM1 := Lib.hid (HOD.out (List.length_pos_iff.2 hO) hps)
                clear HNW HOD
                clear hu0
                obtain ⟨L, hL⟩ : ∃ L, L = O.length := ⟨_, rfl⟩
                have hL0 : 0 < L := by rw [hL]; exact List.length_pos_iff.2 hO
                rw [← hL] at hOl hps
                rcases hown.cells with ⟨_, h0⟩ | ⟨g5, cap5, rfl, hb5, hg5, q5, q6, hx5, hf5⟩
                · exact absurd h0 hO
                have k5 := hx5 (L - 1) (by omega)
                obtain ⟨PP, hPP⟩ : ∃ PP, PP = O.getD (L - 1) ⟨#[]⟩ := ⟨_, rfl⟩
                rw [← hPP] at k5 hps
                have ew : IntKind.i64.wrap ((L : Nat) - 1 : Int) = ((L - 1 : Nat) : Int) := by rw [IntKind.wrap_i64]; omega
                rw [← hL] at q5 hown ⊢
                have HOL : Hid (O.length = L) := Lib.hid hL.symm
                unfold maxLen at q6
                clear hx5 hf5 hL hPP
                have hnb : (PP.toList == X.toList) = true := by rw [hps]; simp
                clear hps
                go_wp2_with fail
                refine wp_region_cls (by kernel_rfl) (by kernel_rfl) ?_
                repeat (
                  refine wpQuiet_step (fun K hK => ?_)
                  go_simp
                  first
                    | (refine hK _ ?_; clear hK K)
                    | (refine ⟨_, fun _ _ => rfl, hK _ ?_⟩; clear hK K)
                    | (apply Exists.intro
                       refine ⟨fun w' hw' => ?_, hK _ ?_⟩
                       · first
                           | (rw [hw'.cell hgr1 k1]; exact ⟨rfl, rfl⟩)
                           | (rw [hw'.cell hgr2 k2]; exact ⟨rfl, rfl⟩)
                           | (rw [hle]; exact ⟨rfl, rfl⟩)
                       clear hK K))
                refine wpQuiet_nil ?_
                intro w' hw'
                have hbw2 := nx hbw hw'
                have hsz2 := hbw2.size
                have hown2 := OwnS.keep hown hw'
                have k8 := (Below.cell (p := ⟨g1, q1 + a, none⟩) hw' hgr1).trans k1
                have k9 := (Below.cell (p := ⟨g5, L - 1, none⟩) hw' hg5).trans k5
                clear k5
                clear k1 hgr1 k2 hgr2 hle hown hbw hw'
                go_wp2_with fail
                go_roundw
                case rel => exact ⟨a + 1, b, O, by omega, by omega, by go_num, by go_num, hown2, hbw2, fun h => absurd h hO, hM1⟩
                case measure => simp [intOf]; omega
              · have hM1 := Lib.hid (HNW.out (Or.inr hps))
                clear HNW HOD
                clear hu0
                obtain ⟨L, hL⟩ : ∃ L, L = O.length := ⟨_, rfl⟩
                have hL0 : 0 < L := by rw [hL]; exact List.length_pos_iff.2 hO
                rw [← hL] at hOl hps
                rcases hown.cells with ⟨_, h0⟩ | ⟨g5, cap5, rfl, hb5, hg5, q5, q6, hx5, hf5⟩
                · exact absurd h0 hO
                have k5 := hx5 (L - 1) (by omega)
                obtain ⟨PP, hPP⟩ : ∃ PP, PP = O.getD (L - 1) ⟨#[]⟩ := ⟨_, rfl⟩
                rw [← hPP] at k5 hps
                have ew : IntKind.i64.wrap ((L : Nat) - 1 : Int) = ((L - 1 : Nat) : Int) := by rw [IntKind.wrap_i64]; omega
                rw [← hL] at q5 hown ⊢
                have HOL : Hid (O.length = L) := Lib.hid hL.symm
                unfold maxLen at q6
                clear hx5 hf5 hL hPP
                have hnb : (PP.toList == X.toList) = false := beq_false_of_ne (fun h => hps (ba_ext (by rw [← Lib.toList_data, ← Lib.toList_data]; exact h)))
                clear hps
                go_wp2_with fail
                refine wp_region_cls (by kernel_rfl) (by kernel_rfl) ?_
                repeat (
                  refine wpQuiet_step (fun K hK => ?_)
                  go_simp
                  first
                    | (refine hK _ ?_; clear hK K)
                    | (refine ⟨_, fun _ _ => rfl, hK _ ?_⟩; clear hK K)
                    | (apply Exists.intro
                       refine ⟨fun w' hw' => ?_, hK _ ?_⟩
                       · first
                           | (rw [hw'.cell hgr1 k1]; exact ⟨rfl, rfl⟩)
                           | (rw [hw'.cell hgr2 k2]; exact ⟨rfl, rfl⟩)
                           | (rw [hle]; exact ⟨rfl, rfl⟩)
                       clear hK K))
                refine wpQuiet_nil ?_
                intro w' hw'
                have hbw2 := nx hbw hw'
                have hsz2 := hbw2.size
                have hown2 := OwnS.keep hown hw'
                have k8 := (Below.cell (p := ⟨g1, q1 + a, none⟩) hw' hgr1).trans k1
                have k9 := (Below.cell (p := ⟨g5, L - 1, none⟩) hw' hg5).trans k5
                clear k5
                clear k1 hgr1 k2 hgr2 hle hown hbw hw'
                unfold OwnS at hown2
                go_wp2_with (at_builtin; go_loud (refine wpList_append_own _ rfl _ _ 46 rfl w22.heap.size 9 i0 (.string ⟨#[]⟩) 1 16 Try.underlying46 hi hz0 hz1 hz2 rfl (by decide) _ _ _ rfl (hown2.alloc _) ⟨_, 0, none⟩ 1 1 [.string X] rfl rfl (new1 _ _ _) (one_str7 _) (by rw [HOL.out]; unfold maxLen; omega) (by rw [HOL.out]; omega) (by simp; omega) ?_); intro v' w9 hown' hgrow hnn)
                have hbw9 := below_app hbw2 hown2 (Nat.le_refl _) hgrow
                have hown1 : OwnS w22.heap.size w9 v' (O ++ [X]) := OwnS.one5 hown'
                clear hown2 hown' hgrow hbw2 hnn
                go_wp2_with fail
                go_roundw
                case rel => exact ⟨a + 1, b, _, by omega, by omega, by go_num, by go_num, hown1, hbw9, fun h => by simp at h, hM1⟩
                case measure => simp [intOf]; omega
          · obtain rfl : b = m := by omega
            have hs : b < B.length → ¬ ltB (B.getD b ⟨#[]⟩) (A.getD a ⟨#[]⟩) := fun h => by have := HM.out; omega
            have hNW := fun hn => HNA.out a b O hMg.out haA hs hn
            have hOD := fun hp hn => hMg.out.old haA hp hn
            rw [← hX] at hNW hOD
            have HNW := Lib.hid hNW
            have HOD := Lib.hid hOD
            clear hNW hOD hs hX hMg haA hlt1 hlt2 a1
            by_cases hO : O = []
            · subst hO
              obtain rfl := hu0 rfl
              have hM1 := Lib.hid (HNW.out (Or.inl rfl))
              clear hu0 HNW HOD
              go_wp2_with fail
              have hd1 : ((b : Int) == (b : Int)) = true := beq_self_eq_true _
              go_quiet (fail)
              have hw' : Below wr.heap.size wr (wr.drewN nq) := drewB (Below.refl _ _) nq
              generalize wr.drewN nq = w' at *
              have hbw2 := nx hbw hw'
              have hsz2 := hbw2.size
              have hown2 := OwnS.keep hown hw'
              have k8 := (Below.cell (p := ⟨g1, q1 + a, none⟩) hw' hgr1).trans k1
              clear k1 hgr1 hown hbw hw'
              unfold OwnS at hown2
              go_wp2_with (at_builtin; go_loud (refine wpList_append_own _ rfl _ _ 46 rfl w22.heap.size 9 i0 (.string ⟨#[]⟩) 1 16 Try.underlying46 hi hz0 hz1 hz2 rfl (by decide) _ _ _ rfl (hown2.alloc _) ⟨_, 0, none⟩ 1 1 [.string X] rfl rfl (new1 _ _ _) (one_str7 _) (by rw [List.length_nil]; unfold maxLen; omega) (by rw [List.length_nil]; omega) (by simp; omega) ?_); intro v' w9 hown' hgrow hnn)
              have hbw9 := below_app hbw2 hown2 (Nat.le_refl _) hgrow
              have hown1 : OwnS w22.heap.size w9 v' ([] ++ [X]) := OwnS.one5 hown'
              clear hown2 hown' hgrow hbw2 hnn
              go_wp2_with fail
              go_roundw
              case rel => exact ⟨a + 1, b, _, by omega, by omega, by go_num, by go_num, hown1, hbw9, fun h => by simp at h, hM1⟩
              case measure => simp [intOf]; omega
            by_cases hps : O.getD (O.length - 1) ⟨#[]⟩ = X
            · have hM1 := Lib.hid (HOD.out (List.length_pos_iff.2 hO) hps)
              clear HNW HOD
              clear hu0
              obtain ⟨L, hL⟩ : ∃ L, L = O.length := ⟨_, rfl⟩
              have hL0 : 0 < L := by rw [hL]; exact List.length_pos_iff.2 hO
              rw [← hL] at hOl hps
              rcases hown.cells with ⟨_, h0⟩ | ⟨g5, cap5, rfl, hb5, hg5, q5, q6, hx5, hf5⟩
              · exact absurd h0 hO
              have k5 := hx5 (L - 1) (by omega)
              obtain ⟨PP, hPP⟩ : ∃ PP, PP = O.getD (L - 1) ⟨#[]⟩ := ⟨_, rfl⟩
              rw [← hPP] at k5 hps
              have ew : IntKind.i64.wrap ((L : Nat) - 1 : Int) = ((L - 1 : Nat) : Int) := by rw [IntKind.wrap_i64]; omega
              rw [← hL] at q5 hown ⊢
              have HOL : Hid (O.length = L) := Lib.hid hL.symm
              unfold maxLen at q6
              clear hx5 hf5 hL hPP
              have hnb : (PP.toList == X.toList) = true := by rw [hps]; simp
              clear hps
              go_wp2_with fail
              have hd1 : ((b : Int) == (b : Int)) = true := beq_self_eq_true _
              go_quiet (fail)
              have hw' : Below wr.heap.size wr (wr.drewN nq) := drewB (Below.refl _ _) nq
              generalize wr.drewN nq = w' at *
              have hbw2 := nx hbw hw'
              have hsz2 := hbw2.size
              have hown2 := OwnS.keep hown hw'
              have k8 := (Below.cell (p := ⟨g1, q1 + a, none⟩) hw' hgr1).trans k1
              have k9 := (Below.cell (p := ⟨g5, L - 1, none⟩) hw' hg5).trans k5
              clear k5
              clear k1 hgr1 hown hbw hw'
              go_wp2_with fail
              go_roundw
              case rel => exact ⟨a + 1, b, O, by omega, by omega, by go_num, by go_num, hown2, hbw2, fun h => absurd h hO, hM1⟩
              case measure => simp [intOf]; omega
            · have hM1 := Lib.hid (HNW.out (Or.inr hps))
              clear HNW HOD
              clear hu0
              obtain ⟨L, hL⟩ : ∃ L, L = O.length := ⟨_, rfl⟩
              have hL0 : 0 < L := by rw [hL]; exact List.length_pos_iff.2 hO
              rw [← hL] at hOl hps
              rcases hown.cells with ⟨_, h0⟩ | ⟨g5, cap5, rfl, hb5, hg5, q5, q6, hx5, hf5⟩
              · exact absurd h0 hO
              have k5 := hx5 (L - 1) (by omega)
              obtain ⟨PP, hPP⟩ : ∃ PP, PP = O.getD (L - 1) ⟨#[]⟩ := ⟨_, rfl⟩
              rw [← hPP] at k5 hps
              have ew : IntKind.i64.wrap ((L : Nat) - 1 : Int) = ((L - 1 : Nat) : Int) := by rw [IntKind.wrap_i64]; omega
              rw [← hL] at q5 hown ⊢
              have HOL : Hid (O.length = L) := Lib.hid hL.symm
              unfold maxLen at q6
              clear hx5 hf5 hL hPP
              have hnb : (PP.toList == X.toList) = false := beq_false_of_ne (fun h => hps (ba_ext (by rw [← Lib.toList_data, ← Lib.toList_data]; exact h)))
              clear hps
              go_wp2_with fail
              have hd1 : ((b : Int) == (b : Int)) = true := beq_self_eq_true _
              go_quiet (fail)
              have hw' : Below wr.heap.size wr (wr.drewN nq) := drewB (Below.refl _ _) nq
              generalize wr.drewN nq = w' at *
              have hbw2 := nx hbw hw'
              have hsz2 := hbw2.size
              have hown2 := OwnS.keep hown hw'
              have k8 := (Below.cell (p := ⟨g1, q1 + a, none⟩) hw' hgr1).trans k1
              have k9 := (Below.cell (p := ⟨g5, L - 1, none⟩) hw' hg5).trans k5
              clear k5
              clear k1 hgr1 hown hbw hw'
              unfold OwnS at hown2
              go_wp2_with (at_builtin; go_loud (refine wpList_append_own _ rfl _ _ 46 rfl w22.heap.size 9 i0 (.string ⟨#[]⟩) 1 16 Try.underlying46 hi hz0 hz1 hz2 rfl (by decide) _ _ _ rfl (hown2.alloc _) ⟨_, 0, none⟩ 1 1 [.string X] rfl rfl (new1 _ _ _) (one_str7 _) (by rw [HOL.out]; unfold maxLen; omega) (by rw [HOL.out]; omega) (by simp; omega) ?_); intro v' w9 hown' hgrow hnn)
              have hbw9 := below_app hbw2 hown2 (Nat.le_refl _) hgrow
              have hown1 : OwnS w22.heap.size w9 v' (O ++ [X]) := OwnS.one5 hown'
              clear hown2 hown' hgrow hbw2 hnn
              go_wp2_with fail
              go_roundw
              case rel => exact ⟨a + 1, b, _, by omega, by omega, by go_num, by go_num, hown1, hbw9, fun h => by simp at h, hM1⟩
              case measure => simp [intOf]; omega
        · obtain rfl : a = h' := by omega
          by_cases hlt2 : b < m
          · obtain ⟨g2, q2, rfl, _, hg2, b1⟩ := HB.out b (by rw [← HM.out]; exact hlt2)
            have k2 := (hbw.cell (p := ⟨g2, q2 + b, none⟩) hg2).trans b1
            have hgr2 : g2 < wr.heap.size := Nat.lt_of_lt_of_le hg2 hbw.size
            have hj1 : ¬ (b : Int) = (m : Int) := by omega
            have hj2 : (b : Int) < (m : Int) := by omega
            have hbB : b < B.length := by rw [← HM.out]; exact hlt2
            obtain ⟨Y, hY⟩ : ∃ Y, Y = B.getD b ⟨#[]⟩ := ⟨_, rfl⟩
            rw [← hY] at k2
            have hs : a < A.length → ¬ ltB (A.getD a ⟨#[]⟩) (B.getD b ⟨#[]⟩) := fun h => by have := HH.out; omega
            have hNW := fun hn => HNB.out a b O hMg.out hbB hs hn
            have hOD := fun hp hn => (hMg.out.swap.old hbB hp hn).swap
            rw [← hY] at hNW hOD
            have HNW := Lib.hid hNW
            have HOD := Lib.hid hOD
            clear hNW hOD hs hY hMg hbB hlt1 hlt2 b1
            by_cases hO : O = []
            · subst hO
              obtain rfl := hu0 rfl
              have hM1 := Lib.hid (HNW.out (Or.inl rfl))
              clear hu0 HNW HOD
              go_wp2_with fail
              have hd1 : ((b : Int) == (m : Int)) = false := beq_false_of_ne hj1
              have hd2 : decide ((a : Int) < (a : Int)) = false := decide_eq_false (by omega)
              go_quiet (fail)
              have hw' : Below wr.heap.size wr (wr.drewN nq) := drewB (Below.refl _ _) nq
              generalize wr.drewN nq = w' at *
              have hbw2 := nx hbw hw'
              have hsz2 := hbw2.size
              have hown2 := OwnS.keep hown hw'
              have k8 := (Below.cell (p := ⟨g2, q2 + b, none⟩) hw' hgr2).trans k2
              clear k2 hgr2 hown hbw hw'
              unfold OwnS at hown2
              go_wp2_with (at_builtin; go_loud (refine wpList_append_own _ rfl _ _ 46 rfl w22.heap.size 9 i0 (.string ⟨#[]⟩) 1 16 Try.underlying46 hi hz0 hz1 hz2 rfl (by decide) _ _ _ rfl (hown2.alloc _) ⟨_, 0, none⟩ 1 1 [.string Y] rfl rfl (new1 _ _ _) (one_str7 _) (by rw [List.length_nil]; unfold maxLen; omega) (by rw [List.length_nil]; omega) (by simp; omega) ?_); intro v' w9 hown' hgrow hnn)
              have hbw9 := below_app hbw2 hown2 (Nat.le_refl _) hgrow
              have hown1 : OwnS w22.heap.size w9 v' ([] ++ [Y]) := OwnS.one5 hown'
              clear hown2 hown' hgrow hbw2 hnn
              go_wp2_with fail
              go_roundw
              case rel => exact ⟨a, b + 1, _, by omega, by omega, by go_num, by go_num, hown1, hbw9, fun h => by simp at h, hM1⟩
              case measure => simp [intOf]; omega
            by_cases hps : O.getD (O.length - 1) ⟨#[]⟩ = Y
            · have hM1 := Lib.hid (HOD.out (List.length_pos_iff.2 hO) hps)
              clear HNW HOD
              clear hu0
              obtain ⟨L, hL⟩ : ∃ L, L = O.length := ⟨_, rfl⟩
              have hL0 : 0 < L := by rw [hL]; exact List.length_pos_iff.2 hO
              rw [← hL] at hOl hps
              rcases hown.cells with ⟨_, h0⟩ | ⟨g5, cap5, rfl, hb5, hg5, q5, q6, hx5, hf5⟩
              · exact absurd h0 hO
              have k5 := hx5 (L - 1) (by omega)
              obtain ⟨PP, hPP⟩ : ∃ PP, PP = O.getD (L - 1) ⟨#[]⟩ := ⟨_, rfl⟩
              rw [← hPP] at k5 hps
              have ew : IntKind.i64.wrap ((L : Nat) - 1 : Int) = ((L - 1 : Nat) : Int) := by rw [IntKind.wrap_i64]; omega
              rw [← hL] at q5 hown ⊢
              have HOL : Hid (O.length = L) := Lib.hid hL.symm
              unfold maxLen at q6
              clear hx5 hf5 hL hPP
              have hnb : (PP.toList == Y.toList) = true := by rw [hps]; simp
              clear hps
              go_wp2_with fail
              have hd1 : ((b : Int) == (m : Int)) = false := beq_false_of_ne hj1
              have hd2 : decide ((a : Int) < (a : Int)) = false := decide_eq_false (by omega)
              go_quiet (fail)
              have hw' : Below wr.heap.size wr (wr.drewN nq) := drewB (Below.refl _ _) nq
              generalize wr.drewN nq = w' at *
              have hbw2 := nx hbw hw'
              have hsz2 := hbw2.size
              have hown2 := OwnS.keep hown hw'
              have k8 := (Below.cell (p := ⟨g2, q2 + b, none⟩) hw' hgr2).trans k2
              have k9 := (Below.cell (p := ⟨g5, L - 1, none⟩) hw' hg5).trans k5
              clear k5
              clear k2 hgr2 hown hbw hw'
              go_wp2_with fail
              go_roundw
              case rel => exact ⟨a, b + 1, O, by omega, by omega, by go_num, by go_num, hown2, hbw2, fun h => absurd h hO, hM1⟩
              case measure => simp [intOf]; omega
            · have hM1 := Lib.hid (HNW.out (Or.inr hps))
              clear HNW HOD
              clear hu0
              obtain ⟨L, hL⟩ : ∃ L, L = O.length := ⟨_, rfl⟩
              have hL0 : 0 < L := by rw [hL]; exact List.length_pos_iff.2 hO
              rw [← hL] at hOl hps
              rcases hown.cells with ⟨_, h0⟩ | ⟨g5, cap5, rfl, hb5, hg5, q5, q6, hx5, hf5⟩
              · exact absurd h0 hO
              have k5 := hx5 (L - 1) (by omega)
              obtain ⟨PP, hPP⟩ : ∃ PP, PP = O.getD (L - 1) ⟨#[]⟩ := ⟨_, rfl⟩
              rw [← hPP] at k5 hps
              have ew : IntKind.i64.wrap ((L : Nat) - 1 : Int) = ((L - 1 : Nat) : Int) := by rw [IntKind.wrap_i64]; omega
              rw [← hL] at q5 hown ⊢
              have HOL : Hid (O.length = L) := Lib.hid hL.symm
              unfold maxLen at q6
              clear hx5 hf5 hL hPP
              have hnb : (PP.toList == Y.toList) = false := beq_false_of_ne (fun h => hps (ba_ext (by rw [← Lib.toList_data, ← Lib.toList_data]; exact h)))
              clear hps
              go_wp2_with fail
              have hd1 : ((b : Int) == (m : Int)) = false := beq_false_of_ne hj1
              have hd2 : decide ((a : Int) < (a : Int)) = false := decide_eq_false (by omega)
              go_quiet (fail)
              have hw' : Below wr.heap.size wr (wr.drewN nq) := drewB (Below.refl _ _) nq
              generalize wr.drewN nq = w' at *
              have hbw2 := nx hbw hw'
              have hsz2 := hbw2.size
              have hown2 := OwnS.keep hown hw'
              have k8 := (Below.cell (p := ⟨g2, q2 + b, none⟩) hw' hgr2).trans k2
              have k9 := (Below.cell (p := ⟨g5, L - 1, none⟩) hw' hg5).trans k5
              clear k5
              clear k2 hgr2 hown hbw hw'
              unfold OwnS at hown2
              go_wp2_with (at_builtin; go_loud (refine wpList_append_own _ rfl _ _ 46 rfl w22.heap.size 9 i0 (.string ⟨#[]⟩) 1 16 Try.underlying46 hi hz0 hz1 hz2 rfl (by decide) _ _ _ rfl (hown2.alloc _) ⟨_, 0, none⟩ 1 1 [.string Y] rfl rfl (new1 _ _ _) (one_str7 _) (by rw [HOL.out]; unfold maxLen; omega) (by rw [HOL.out]; omega) (by simp; omega) ?_); intro v' w9 hown' hgrow hnn)
              have hbw9 := below_app hbw2 hown2 (Nat.le_refl _) hgrow
              have hown1 : OwnS w22.heap.size w9 v' (O ++ [Y]) := OwnS.one5 hown'
              clear hown2 hown' hgrow hbw2 hnn
              go_wp2_with fail
              go_roundw
              case rel => exact ⟨a, b + 1, _, by omega, by omega, by go_num, by go_num, hown1, hbw9, fun h => by simp at h, hM1⟩
              case measure => simp [intOf]; omega
          · obtain rfl : b = m := by omega
            have hfin := HFM.out O (by have := hMg.out; rwa [HH.out, HM.out] at this)
            have hrd : ReadS base wr u5 O := hown.cells.read.mono (Nat.le_trans hbs hb22'.size)
            have HF := Lib.hid hfin
            have HR := Lib.hid hrd
            have hbwz := nx (Below.refl _ _) hb22'
            have hfb := nx hbwz hbw
            clear hown hfin hrd hMg
            go_wp2_with fail
            go_ret
            exact ⟨_, O, HR.out, HF.out.1, HF.out.2.1, HF.out.2.2, hfb, rfl⟩
end Go.Proofs.Yteflpaebckichaa

/-! Lh1 -/
namespace Go.Proofs.Yteflpaebckichaa
open Go.RowKit

set_option maxRecDepth 100000 in
set_option maxHeartbeats 2000000 in
theorem lnHas_any (b0 : Nat) (S : List ByteArray) (hS : IncS S) (s : ByteArray) (v : Value) (w : World) (h : ReadS b0 w v S) (h9 : S.length ≤ 100000) :
    Calls Try.prog 25 #[v, .string s] w fun e w' => ∃ c, e = .returned (.bool c) ∧ (c = true ↔ s ∈ S) ∧ w = w' := by
  obtain ⟨oa, cap, rfl, h1, h2, hc⟩ := h
  have HC := Lib.hid hc
  have HS := Lib.hid hS
  obtain ⟨n, hn⟩ : ∃ n, n = S.length := ⟨_, rfl⟩
  rw [← hn] at h9 h1 ⊢
  have HN := Lib.hid hn
  unfold maxLen at h2
  clear hc hS hn
  go_enter Try.func25, Try.ntmps25
  go_wp2_with fail
  go_loopw [5, 6] (fun l r wr => ∃ a b : Nat, a ≤ b ∧ b ≤ n ∧ l = .int .i64 a ∧ r = .int .i64 b ∧ wr = w ∧ Hid (∀ i, i < a → ltB (S.getD i ⟨#[]⟩) s) ∧ Hid (∀ i, b ≤ i → i < n → ¬ ltB (S.getD i ⟨#[]⟩) s)) (fun l r _ => (intOf r).toNat - (intOf l).toNat)
  case atStart => exact ⟨0, n, Nat.zero_le _, Nat.le_refl _, rfl, rfl, rfl, fun i hi => by omega, fun i h1 h2 => by omega⟩
  case round =>
    obtain ⟨a, b, hab, hbn, rfl, rfl, rfl, hlo, hhi⟩ := hrel
    by_cases hlt : a < b
    · have hlt' : (a : Int) < (b : Int) := by omega
      obtain ⟨m, hm⟩ : ∃ m, m = (a + b) / 2 := ⟨_, rfl⟩
      have hma : a ≤ m := by omega
      have hmb : m < b := by omega
      have em : ((a : Int) + (b : Int)).tdiv 2 = (m : Int) := by rw [hm, Int.tdiv_eq_ediv_of_nonneg (by omega)]; omega
      have ew1 : IntKind.i64.wrap ((a : Int) + (b : Int)) = (a : Int) + (b : Int) := by rw [IntKind.wrap_i64]; omega
      have ew2 : IntKind.i64.wrap (m : Int) = (m : Int) := by rw [IntKind.wrap_i64]; omega
      obtain ⟨g, q, rfl, _, hg, c1⟩ := HC.out m (by rw [← HN.out]; omega)
      have hmn : (m : Int) < (n : Int) := by omega
      obtain ⟨X, hX⟩ : ∃ X, X = S.getD m ⟨#[]⟩ := ⟨_, rfl⟩
      rw [← hX] at c1
      by_cases hl : ltB X s
      · have hless : Go.Op.bytesLess X.toList s.toList = true := hl
        have hlo2 : ∀ i, i < m + 1 → ltB (S.getD i ⟨#[]⟩) s := fun i hi => by
          rcases Nat.lt_or_ge i m with h | h
          · exact ltB_trans (HS.out.lt h (by rw [← HN.out]; omega)) (by rw [← hX]; exact hl)
          · rw [show i = m by omega, ← hX]; exact hl
        have HLO := Lib.hid hlo2
        clear hlo2 hlo hl hX hm
        go_wp2_with fail
        go_roundw
        case rel => exact ⟨m + 1, b, by omega, hbn, by go_num, rfl, trivial, HLO, hhi⟩
        case measure => simp [intOf]; omega
      · have hless : Go.Op.bytesLess X.toList s.toList = false := by cases h9 : Go.Op.bytesLess X.toList s.toList with | false => rfl | true => exact absurd h9 hl
        have hhi2 : ∀ i, m ≤ i → i < n → ¬ ltB (S.getD i ⟨#[]⟩) s := fun i h1 h2 h3 => by
          rcases Nat.lt_or_ge m i with h | h
          · exact hl (ltB_trans (by rw [hX]; exact HS.out.lt h (by rw [← HN.out]; omega)) h3)
          · rw [show i = m by omega, ← hX] at h3; exact hl h3
        have HHI := Lib.hid hhi2
        clear hhi2 hhi hl hX hm
        go_wp2_with fail
        go_roundw
        case rel => exact ⟨a, m, by omega, by omega, rfl, rfl, trivial, hlo, HHI⟩
        case measure => simp [intOf]; omega
    · obtain rfl : a = b := by omega
      by_cases han : a < n
      · have han' : (a : Int) < (n : Int) := by omega
        obtain ⟨g, q, rfl, _, hg, c1⟩ := HC.out a (by rw [← HN.out]; omega)
        have haS : a < S.length := by rw [← HN.out]; exact han
        have hin : s ∈ S ↔ S.getD a ⟨#[]⟩ = s := by
          constructor
          · intro hs
            obtain ⟨i, hi, rfl⟩ := mem_getD9 hs
            rcases Nat.lt_trichotomy i a with h | h | h
            · exact absurd (hlo.out i h) (ltB_irrefl _)
            · rw [h]
            · exact absurd (HS.out.lt h hi) (hhi.out a (Nat.le_refl _) han)
          · intro e; rw [← e]; exact getD_mem9 haS
        obtain ⟨X, hX⟩ : ∃ X, X = S.getD a ⟨#[]⟩ := ⟨_, rfl⟩
        rw [← hX] at c1 hin
        have HIN := Lib.hid hin
        by_cases e : X = s
        · have hq : (X.toList == s.toList) = true := by rw [e]; simp
          have HE := Lib.hid e
          clear hX e hin hlo hhi haS
          go_wp2_with fail
          go_ret
          exact ⟨true, rfl, ⟨fun _ => HIN.out.2 HE.out, fun _ => rfl⟩, rfl⟩
        · have hq : (X.toList == s.toList) = false := beq_false_of_ne (fun h => e (ba_ext (by rw [← Lib.toList_data, ← Lib.toList_data]; exact h)))
          have HE := Lib.hid e
          clear hX e hin hlo hhi haS
          go_wp2_with fail
          go_ret
          exact ⟨false, rfl, ⟨fun h => (by cases h), fun h => absurd (HIN.out.1 h) HE.out⟩, rfl⟩
      · obtain rfl : a = n := by omega
        have hin : s ∉ S := fun hs => by
          obtain ⟨i, hi, rfl⟩ := mem_getD9 hs
          exact ltB_irrefl _ (hlo.out i (by rw [HN.out]; exact hi))
        have HIN := Lib.hid hin
        clear hin hlo hhi
        go_wp2_with fail
        go_ret
        exact ⟨false, rfl, ⟨fun h => (by cases h), fun h => absurd h HIN.out⟩, rfl⟩
end Go.Proofs.Yteflpaebckichaa

/-! Sp4 -/
namespace Go.Proofs.Yteflpaebckichaa
open Go.RowKit

/-- A row of slices of the call's own. -/
def OwnV (base : Nat) (w : World) (v : Value) (vs : List Value) : Prop := w.ownsRow base 46 1 v vs.length vs
theorem OwnV.keep {base : Nat} {w w' : World} {v : Value} {vs : List Value} (h : OwnV base w v vs) (hb : Below w.heap.size w w') : OwnV base w' v vs := ownsRow_keep h hb
theorem OwnV.get2 {base n : Nat} {w : World} {v : Value} {vs : List Value} (h : OwnV base w v vs) (hn : vs.length = n) {i : Nat} (hi : i < n) : ∃ g cap, v = .slice (some ⟨g, 0, none⟩) n cap ∧ n ≤ cap ∧ cap ≤ maxLen ∧ base ≤ g ∧ g < w.heap.size ∧ w.cell? ⟨g, i, none⟩ = some (vs.getD i undef) := by
  subst hn
  have h0 := h
  rcases h.2 with ⟨_, hn⟩ | ⟨g, cap, cur, rfl, hb, hg, r1, r2, _⟩
  · omega
  · refine ⟨g, cap, rfl, r1, r2, hb, lt_of_block hg, ?_⟩
    rw [World.ownsRow.cellAt h0 i (by omega)]
    simp [List.getD_eq_getElem?_getD, hi]
theorem OwnV.snoc {base : Nat} {w : World} {v u : Value} {vs : List Value} (h : w.ownsRow base 46 1 v (vs.length + 1) (vs ++ [u])) : OwnV base w v (vs ++ [u]) := by
  unfold OwnV; rw [List.length_append]; exact h
theorem OwnV.one (w : World) (u : Value) : OwnV w.heap.size (w.alloc (.cells #[u] 46 (0, 0))) (.slice (some ⟨w.heap.size, 0, none⟩) 1 1) [u] := by
  refine ⟨rfl, .inr ⟨w.heap.size, 1, #[u], rfl, Nat.le_refl _, ?_, Nat.le_refl _, by unfold maxLen; omega, rfl, rfl⟩⟩
  show (w.heap.push _)[w.heap.size]? = _
  simp
theorem info_row : (Try.prog.info? 46).map (fun i => (i.zero, i.size, i.bytes)) = some (some (.slice none 0 0), 1, 24) := by kernel_rfl
theorem one_row (oa : Option Addr) (n c : Nat) : ∀ u ∈ [Value.slice oa n c], u.oneCell' = true := by intro u hu; simp at hu; subst hu; rfl
/-- A slice of texts that can be read, and lies in no block of the row u. -/
def ReadF (base : Nat) (u : Value) (w : World) (v : Value) (ss : List ByteArray) : Prop :=
  ∃ oa cap, v = .slice oa ss.length cap ∧ ss.length ≤ cap ∧ cap ≤ maxLen ∧ ∀ i, i < ss.length → ∃ g q, oa = some ⟨g, q, none⟩ ∧ base ≤ g ∧ g < w.heap.size ∧ w.cell? ⟨g, q + i, none⟩ = some (.string (ss.getD i ⟨#[]⟩)) ∧ u.ownBlock ≠ some g
theorem ReadF.read {base : Nat} {u v : Value} {w : World} {ss : List ByteArray} (h : ReadF base u w v ss) : ReadS base w v ss := by
  obtain ⟨oa, cap, h1, h2, h3, h4⟩ := h
  refine ⟨oa, cap, h1, h2, h3, fun i hi => ?_⟩
  obtain ⟨g, q, a1, a2, a3, a4, _⟩ := h4 i hi
  exact ⟨g, q, a1, a2, a3, a4⟩
theorem ReadF.keep {base : Nat} {u v : Value} {w w' : World} {ss : List ByteArray} (h : ReadF base u w v ss) (hb : Below w.heap.size w w') : ReadF base u w' v ss := by
  obtain ⟨oa, cap, h1, h2, h3, h4⟩ := h
  refine ⟨oa, cap, h1, h2, h3, fun i hi => ?_⟩
  obtain ⟨g, q, a1, a2, a3, a4, a5⟩ := h4 i hi
  exact ⟨g, q, a1, a2, Nat.lt_of_lt_of_le a3 hb.size, (hb.cell (p := ⟨g, q + i, none⟩) a3).trans a4, a5⟩
theorem ReadF.grow {base : Nat} {u u' v : Value} {w w' : World} {ss : List ByteArray} (h : ReadF base u w v ss) (hg : w.grownBy w' u.ownBlock) (ho : u'.ownBlock = u.ownBlock ∨ u'.ownBlock = some w.heap.size) : ReadF base u' w' v ss := by
  obtain ⟨oa, cap, h1, h2, h3, h4⟩ := h
  refine ⟨oa, cap, h1, h2, h3, fun i hi => ?_⟩
  obtain ⟨g, q, a1, a2, a3, a4, a5⟩ := h4 i hi
  refine ⟨g, q, a1, a2, Nat.lt_of_lt_of_le a3 hg.size, (World.cell?_of_block (a := ⟨g, q + i, none⟩) (hg.block g a3 (fun e => a5 e.symm))).trans a4, ?_⟩
  rcases ho with ho | ho <;> rw [ho]
  · exact a5
  · intro e; injection e with e; omega
theorem ReadF.of {base : Nat} {u v : Value} {w : World} {ss : List ByteArray} (h : ReadS base w v ss) (hu : ∀ g, u.ownBlock = some g → g < base) : ReadF base u w v ss := by
  obtain ⟨oa, cap, h1, h2, h3, h4⟩ := h
  refine ⟨oa, cap, h1, h2, h3, fun i hi => ?_⟩
  obtain ⟨g, q, a1, a2, a3, a4⟩ := h4 i hi
  exact ⟨g, q, a1, a2, a3, a4, fun e => by have := hu g e; omega⟩
theorem ReadF.mono {base base' : Nat} {u v : Value} {w : World} {ss : List ByteArray} (h : ReadF base u w v ss) (hb : base' ≤ base) : ReadF base' u w v ss := by
  obtain ⟨oa, cap, h1, h2, h3, h4⟩ := h
  refine ⟨oa, cap, h1, h2, h3, fun i hi => ?_⟩
  obtain ⟨g, q, a1, a2, a⟩ := h4 i hi
  exact ⟨g, q, a1, Nat.le_trans hb a2, a⟩
/-- The spheres' texts up to one. -/
def GivesTxt (n : Nat) (w : World) (e : Ending) (w' : World) : Prop := ∃ v vs, vs.length = n + 1 ∧ OwnV w.heap.size w' v vs ∧ (∀ r, r ≤ n → ∃ P, SphS r P ∧ ReadS w.heap.size w' (vs.getD r undef) (P.map pTx)) ∧ Below w.heap.size w w' ∧ e = .returned v
theorem prUnit9_any (w : World) : Calls Try.prog 37 #[] w (Gives (.agg #[.string idP.1.str, .string idP.2.str]) w) := by
  show Calls Try.prog 37 #[] w (Gives (.agg #[.string Tr.lf.str, .string Tr.lf.str]) w)
  go_enter Try.func37, Try.ntmps37
  go_wp2
  refine bodyPost_ret (v := .agg #[.string Tr.lf.str, .string Tr.lf.str]) (by simp [results, Try.results37, go_sem]; rfl) rfl ⟨rfl, ?_⟩
  exact nxAlloc (Below.refl _ _) _

set_option maxRecDepth 100000 in
set_option maxHeartbeats 2000000 in
theorem lnSpheres_any (n : Nat) (hn5 : n ≤ 5) (w : World) : Calls Try.prog 24 #[.int .i64 n] w (GivesTxt n w) := by
  obtain ⟨i0, hi0, hz0, hz1, hz2⟩ := info_parts info_str
  obtain ⟨j0, hj0, hy0, hy1, hy2⟩ := info_parts info_row
  have hX := fun w => prTx_any idP w (by decide) (by decide)
  go_enter Try.func24, Try.ntmps24
  go_wp2_with fail
  refine (prUnit9_any _).mono ?_; rintro e w1 ⟨rfl, hb1⟩
  go_wp2_with fail
  refine (hX _).mono ?_; rintro e w2 ⟨rfl, hb2⟩
  have hbw2 := nx hb1 hb2
  clear hb1 hb2 hX
  go_wp2_with fail
  have hbw4 := nxAlloc (nxAlloc hbw2 (.cells #[.string (pTx idP)] 9 (0, 0))) (.cells #[.slice (some ⟨w2.heap.size, 0, none⟩) 1 1] 46 (0, 0))
  have es1 : (w2.alloc (.cells #[.string (pTx idP)] 9 (0, 0))).heap.size = w2.heap.size + 1 := by simp
  have hrow : OwnV w.heap.size ((w2.alloc (.cells #[.string (pTx idP)] 9 (0, 0))).alloc (.cells #[.slice (some ⟨w2.heap.size, 0, none⟩) 1 1] 46 (0, 0))) (.slice (some ⟨w2.heap.size + 1, 0, none⟩) 1 1) [.slice (some ⟨w2.heap.size, 0, none⟩) 1 1] := by
    have h9 := OwnV.one (w2.alloc (.cells #[.string (pTx idP)] 9 (0, 0))) (.slice (some ⟨w2.heap.size, 0, none⟩) 1 1)
    rw [es1] at h9
    exact ownsRow_mono h9 (by have := hbw2.size; omega)
  have hrd0 : ReadF w.heap.size (.slice (some ⟨w2.heap.size + 1, 0, none⟩) 1 1) ((w2.alloc (.cells #[.string (pTx idP)] 9 (0, 0))).alloc (.cells #[.slice (some ⟨w2.heap.size, 0, none⟩) 1 1] 46 (0, 0))) (.slice (some ⟨w2.heap.size, 0, none⟩) 1 1) ([idP].map pTx) := by
    have h9 := (OwnS.keep (OwnS.one w2 (pTx idP)) (nxAlloc (Below.refl _ _) (.cells #[.slice (some ⟨w2.heap.size, 0, none⟩) 1 1] 46 (0, 0)))).cells.read
    obtain ⟨oa, cap, h1, h2, h3, h4⟩ := h9
    refine ⟨oa, cap, h1, h2, h3, fun i hi => ?_⟩
    obtain ⟨g, q, a1, a2, a3, a4⟩ := h4 i hi
    refine ⟨g, q, a1, Nat.le_trans hbw2.size a2, a3, a4, fun e => ?_⟩
    rw [a1] at h1
    simp [Value.ownBlock] at e h1
    omega
  generalize (w2.alloc (.cells #[.string (pTx idP)] 9 (0, 0))).alloc (.cells #[.slice (some ⟨w2.heap.size, 0, none⟩) 1 1] 46 (0, 0)) = w4 at *
  generalize (Value.slice (some ⟨w2.heap.size + 1, 0, none⟩) 1 1) = v3 at *
  generalize (Value.slice (some ⟨w2.heap.size, 0, none⟩) 1 1) = z3 at *
  clear es1 hbw2
  go_loopw [3, 4] (fun u c wr => ∃ (k : Nat) (vs : List Value), 1 ≤ k ∧ k ≤ n + 1 ∧ c = .int .i64 k ∧ Hid (vs.length = k) ∧ OwnV w.heap.size wr u vs ∧ (∀ r, r < k → ∃ P, SphS r P ∧ ReadF w.heap.size u wr (vs.getD r undef) (P.map pTx)) ∧ Below w.heap.size w wr) (fun _ c _ => n + 1 - (intOf c).toNat)
  case atStart => exact ⟨1, [z3], Nat.le_refl _, by omega, rfl, rfl, hrow, fun r hr => ⟨[idP], by rw [show r = 0 by omega]; exact SphS.zero, by rw [show r = 0 by omega]; exact hrd0⟩, hbw4⟩
  case round =>
    clear hrow hrd0 hbw4
    obtain ⟨k, vs, hk1, hkn, rfl, hlen, hrow, hSs, hbw⟩ := hrel
    by_cases hlt : k < n + 1
    · have hlt' : (k : Int) ≤ (n : Int) := by omega
      obtain ⟨i, hi⟩ : ∃ i, k = i + 1 := ⟨k - 1, by omega⟩
      have ew : IntKind.i64.wrap ((k : Int) - 1) = (i : Int) := by rw [IntKind.wrap_i64]; omega
      obtain ⟨g, cap, rfl, r1, r2, hgb, hgl, hc⟩ := hrow.get2 hlen.out (i := i) (by omega)
      obtain ⟨P, hP, hRd⟩ := hSs i (by omega)
      have hRd0 := Lib.hid hRd
      obtain ⟨oa, cp, e, q1, q2, q3⟩ := hRd
      have hPl := hP.len (by omega)
      rw [e] at hc hRd0
      obtain ⟨N, hN⟩ : ∃ N, N = P.length := ⟨_, rfl⟩
      rw [List.length_map, ← hN] at hc q1 q3 hRd0
      rw [← hN] at hPl
      have HQ := Lib.hid q3
      have HSS := Lib.hid hSs
      have HP := Lib.hid hP
      have HN := Lib.hid hN
      have HI := Lib.hid hi
      have hrowH := Lib.hid hrow
      have hik : (i : Int) < (k : Int) := by omega
      unfold maxLen at r2 q2
      have hcg : wr.cell? ⟨g, i, none⟩ = some (.slice oa N cp) := hc
      clear hSs hrow hP hN q3 e hc hi
      obtain ⟨wq, rfl⟩ : ∃ wq, wq = wr := ⟨wr, rfl⟩
      go_wp2_with fail
      go_loopw [5, 30] (fun nx c wr => ∃ j : Nat, j ≤ N ∧ c = .int .i64 j ∧ OwnS wq.heap.size wr nx (nextS P j 0) ∧ Below wq.heap.size wq wr) (fun _ c _ => N - (intOf c).toNat)
      case atStart => exact ⟨0, Nat.zero_le _, rfl, by rw [nextS_zero]; exact OwnS.nil _ _, Below.refl _ _⟩
      case round =>
        obtain ⟨j, hj, rfl, hown, hbx⟩ := hrel
        by_cases hjN : j < N
        · have hjN' : (j : Int) < (N : Int) := by omega
          obtain ⟨g', q', rfl, _, hg', c1, _⟩ := HQ.out j hjN
          replace c1 := (hbx.cell (p := ⟨g', q' + j, none⟩) hg').trans c1
          have hjP : j < P.length := by rw [← HN.out]; exact hjN
          rw [map_getD9 hjP] at c1
          have hpm : P.getD j idP ∈ P := by rw [List.getD_eq_getElem?_getD, List.getElem?_eq_getElem hjP]; exact List.getElem_mem hjP
          have hps := (HP.out.mem _).1 hpm
          have hnx : ∀ m, m < 4 → nextS P j (m + 1) = nextS P j m ++ [pTx (mulP (P.getD j idP) (ltP (fourL.getD m 0)))] := fun m hm => nextS_letter hm
          have hnl : ∀ m, (nextS P j m).length ≤ 5464 := fun m => by have := nextS_len P j m; have := HN.out; omega
          have hnn := nextS_next hjP
          obtain ⟨p, hp⟩ : ∃ p, p = P.getD j idP := ⟨_, rfl⟩
          rw [← hp] at c1 hps hnx
          obtain ⟨p1, p2, p3⟩ := sphL_eight (by omega) hps
          have hne : ∀ m, m < 4 → okP (mulP p (ltP (fourL.getD m 0))) ∧ (mulP p (ltP (fourL.getD m 0))).1.carets ≤ 8 ∧ (mulP p (ltP (fourL.getD m 0))).2.carets ≤ 8 := fun m hm => near_eight (by omega) hps hm
          have PP : ∀ w, Calls Try.prog 38 #[.string (pTx p)] w (Gives (.tuple #[.agg #[.string p.1.str, .string p.2.str], .bool true]) w) := fun w => by
            have h9 := prParse_any (pTx p) w (by have := pTx_size (p := p) (by omega) (by omega); omega)
            rw [cut_pTx9 p1 p2] at h9
            exact h9
          have HNX := Lib.hid hnx
          have HNL := Lib.hid hnl
          have HNN := Lib.hid hnn
          have HNE := Lib.hid hne
          clear hnx hnl hnn hne hp hps hpm hjP
          go_wp2_with fail
          refine (PP _).mono ?_; rintro e w5 ⟨rfl, hb5⟩
          replace hown := OwnS.keep hown hb5
          replace hbx := nx hbx hb5
          have hlt5 : ∀ g, u5.ownBlock = some g → g < w5.heap.size := fun g hg => (World.ownsRow.lt (show w5.ownsRow _ _ _ _ _ _ from hown) g hg).2
          clear hb5 c1 PP
          go_wp2_with fail
          have hy := heap_alloc_at w5 (.cells #[.string p.1.str, .string p.2.str] 27 (0, 0))
          replace hown := OwnS.keep hown (nxAlloc (Below.refl _ _) (.cells #[.string p.1.str, .string p.2.str] 27 (0, 0)))
          replace hbx := nxAlloc hbx (.cells #[.string p.1.str, .string p.2.str] 27 (0, 0))
          have h56 : w5.heap.size < (w5.alloc (.cells #[.string p.1.str, .string p.2.str] 27 (0, 0))).heap.size := by simp
          have hne8 : u5.ownBlock ≠ some w5.heap.size := fun e => by have := hlt5 _ e; omega
          have hne4 : u5.ownBlock ≠ some (w5.alloc (.cells #[.string p.1.str, .string p.2.str] 27 (0, 0))).heap.size := fun e => by have := hlt5 _ e; omega
          clear hlt5
          generalize w5.alloc (.cells #[.string p.1.str, .string p.2.str] 27 (0, 0)) = w6 at *
          generalize w5.heap.size = g8 at *
          refine (lnLetters_any _).mono ?_; rintro e w7 ⟨rfl, hL0, hg4, hb7⟩
          replace hown := OwnS.keep hown hb7
          replace hbx := nx hbx hb7
          replace hy := heap_keep hb7 hy
          have HL0 := Lib.hid hL0
          clear hL0 hb7
          generalize w6.heap.size = g4 at *
          go_wp2_with fail
          go_loopw [5, 41] (fun nx c wr => ∃ m : Nat, m ≤ 4 ∧ c = .int .i64 m ∧ OwnS wq.heap.size wr nx (nextS P j m) ∧ Below wq.heap.size wq wr ∧ wr.heap[g8]? = some (.cells #[.string p.1.str, .string p.2.str] 27 (0, 0)) ∧ wr.heap[g4]? = w7.heap[g4]? ∧ w7.heap.size ≤ wr.heap.size ∧ nx.ownBlock ≠ some g8 ∧ nx.ownBlock ≠ some g4) (fun _ c _ => 4 - (intOf c).toNat)
          case atStart => exact ⟨0, by omega, rfl, hown, hbx, hy, rfl, Nat.le_refl _, hne8, hne4⟩
          case round =>
            clear hown hbx hy hne8 hne4
            obtain ⟨m, hm, rfl, hown, hbx, hy, hf4, hsz7, hne8, hne4⟩ := hrel
            by_cases hm4 : m < 4
            · have hm4' : (m : Int) < 4 := by omega
              have c1 : wr.cell? ⟨g4, m, none⟩ = some (.int .i64 (fourL.getD m 0)) := (World.cell?_of_block (a := ⟨g4, m, none⟩) hf4).trans (HL0.out m hm4)
              obtain ⟨x0, x1, x2⟩ := fourL_get m hm4
              obtain ⟨m1, m2, m3⟩ := HNE.out m hm4
              have hnext := HNX.out m hm4
              have hlen := HNL.out m
              generalize fourL.getD m 0 = x at *
              obtain ⟨k1, k2, k3⟩ := ltP_small x0 x1 x2
              have hW := fun w => wdLetter_any x w x0 (by omega) (by omega)
              have hP := fun w => prTimes_any p (ltP x) w p1 k1 (by omega) (by omega)
              have hL := fun w => prTx_any (mulP p (ltP x)) w (by omega) (by omega)
              generalize pTx (mulP p (ltP x)) = z at *
              generalize (mulP p (ltP x)).1.str = C at *
              generalize (mulP p (ltP x)).2.str = D at *
              generalize (ltP x).1.str = A at *
              generalize (ltP x).2.str = B at *
              generalize nextS P j m = ts at *
              have HNT := Lib.hid hnext
              obtain ⟨f1, f2, f3⟩ := two_facts hy
              have hz := Below.refl wr.heap.size wr
              have hf9 : g4 < wr.heap.size := by omega
              clear hnext k1 k2 k3 m1 m2 m3
              go_wp2_with fail
              refine wp_region_held_drew (S := (fun (w' : World) => w'.cell? ⟨g8, 0, none⟩ = some (.string p.1.str) ∧ w'.cell? ⟨g8, 1, none⟩ = some (.string p.2.str))) (by kernel_rfl) ⟨f1, f2⟩ (fun hH0 => ?_)
              refine wpAnyH_take (i := 0) (oi := ?oi201) (v := ?vv201) ?hi201 ?hn201 ?hf201 ?hr201 ?hq201 (Or.inl ⟨?hg201, ?hy201⟩) hH0 ?rest201
              case hi201 => (simp only [List.getElem?_toArray, List.getElem?_cons_zero]; rfl)
              case hn201 => kernel_rfl
              case hf201 => kernel_rfl
              case hr201 => kernel_rfl
              case hg201 => rfl
              case hy201 => (intro w hSw; (try dsimp only at hSw); go_simp; first | done | with_reducible rfl)
              case hq201 => exact fun _ _ _ h => h
              try dsimp only [Act.put]
              refine wpAnyH_take (i := 1) (oi := ?oi202) (v := ?vv202) ?hi202 ?hn202 ?hf202 ?hr202 ?hq202 (Or.inl ⟨?hg202, ?hy202⟩) hH0 ?rest202
              case hi202 => (simp only [List.getElem?_toArray, List.getElem?_cons_succ, List.getElem?_cons_zero]; rfl)
              case hn202 => kernel_rfl
              case hf202 => kernel_rfl
              case hr202 => kernel_rfl
              case hg202 => rfl
              case hy202 => (intro w hSw; (try dsimp only at hSw); go_simp; first | done | with_reducible rfl)
              case hq202 => exact fun _ _ _ h => h
              try dsimp only [Act.put]
              refine wpAnyH_take (i := 2) (oi := ?oi203) (v := ?vv203) ?hi203 ?hn203 ?hf203 ?hr203 ?hq203 (Or.inl ⟨?hg203, ?hy203⟩) hH0 ?rest203
              case hi203 => (simp only [List.getElem?_toArray, List.getElem?_cons_succ, List.getElem?_cons_zero]; rfl)
              case hn203 => kernel_rfl
              case hf203 => kernel_rfl
              case hr203 => kernel_rfl
              case hg203 => rfl
              case hy203 => (intro w hSw; (try dsimp only at hSw); go_simp; first | done | with_reducible rfl)
              case hq203 => exact fun _ _ _ h => h
              try dsimp only [Act.put]
              refine held_one 3 rfl (by kernel_rfl) (fun K hK => ?_)
              go_simp
              refine (hW _).mono ?_; rintro e w3 ⟨rfl, hb3⟩
              have hb3' := nx hz.drew hb3
              go_wp2_with fail
              have hH1 : (fun (w' : World) => w'.cell? ⟨g8, 0, none⟩ = some (.string p.1.str) ∧ w'.cell? ⟨g8, 1, none⟩ = some (.string p.2.str)) _ := ⟨keep_cell hb3' f1, keep_cell hb3' f2⟩
              refine hK.out (fun (w' : World) => w'.cell? ⟨g8, 0, none⟩ = some (.string p.1.str) ∧ w'.cell? ⟨g8, 1, none⟩ = some (.string p.2.str)) _ _ (fun _ h => h) hH1 ?_
              clear hK K
              try dsimp only [Act.put]
              refine held_one 4 rfl (by kernel_rfl) (fun K hK => ?_)
              go_simp
              refine (hP _).mono ?_; rintro e w4 ⟨rfl, hb4⟩
              have hb4' := nx hb3' hb4
              go_wp2_with fail
              have hH2 : (fun (w' : World) => w'.cell? ⟨g8, 0, none⟩ = some (.string p.1.str) ∧ w'.cell? ⟨g8, 1, none⟩ = some (.string p.2.str)) _ := ⟨keep_cell hb4' f1, keep_cell hb4' f2⟩
              refine hK.out (fun (w' : World) => w'.cell? ⟨g8, 0, none⟩ = some (.string p.1.str) ∧ w'.cell? ⟨g8, 1, none⟩ = some (.string p.2.str)) _ _ (fun _ h => h) hH2 ?_
              clear hK K
              try dsimp only [Act.put]
              refine held_one 5 rfl (by kernel_rfl) (fun K hK => ?_)
              go_simp
              refine (hL _).mono ?_; rintro e w5 ⟨rfl, hb5⟩
              have hb5' := nx hb4' hb5
              go_wp2_with fail
              have hH3 : (fun (w' : World) => w'.cell? ⟨g8, 0, none⟩ = some (.string p.1.str) ∧ w'.cell? ⟨g8, 1, none⟩ = some (.string p.2.str)) _ := ⟨keep_cell hb5' f1, keep_cell hb5' f2⟩
              refine hK.out (fun (w' : World) => w'.cell? ⟨g8, 0, none⟩ = some (.string p.1.str) ∧ w'.cell? ⟨g8, 1, none⟩ = some (.string p.2.str)) _ _ (fun _ h => h) hH3 ?_
              clear hK K
              try dsimp only [Act.put]
              have hown5 := OwnS.keep hown hb5'
              have e15 := nx hb5' (nxAlloc (Below.refl w5.heap.size w5) (.cells #[.string z] 9 (0, 0)))
              have hbx5 := nx hbx hb5'
              have hs5 := hb5'.size
              have es5 : (w5.alloc (.cells #[.string z] 9 (0, 0))).heap.size = w5.heap.size + 1 := by simp
              refine held_one 6 rfl (by kernel_rfl) (fun K hK => ?_)
              go_simp
              refine hK.out (fun (w' : World) => w'.cell? ⟨g8, 0, none⟩ = some (.string p.1.str) ∧ w'.cell? ⟨g8, 1, none⟩ = some (.string p.2.str)) _ _ (fun _ h => h) ⟨keep_cell e15 f1, keep_cell e15 f2⟩ ?_
              clear hK K
              try dsimp only [Act.put]
              refine held_one 7 rfl (by kernel_rfl) (fun K hK => ?_)
              refine step_append_lies _ rfl _ _ 46 rfl wq.heap.size 9 i0 (.string ⟨#[]⟩) 1 16 Try.underlying46 hi0 hz0 hz1 hz2 rfl (by decide) _ _ _ rfl (hown5.alloc _) ⟨w5.heap.size, 0, none⟩ 1 1 [.string z] rfl rfl (new1 _ _ _) (one_str7 _) (by decide) (by unfold maxLen; omega) (by omega) (by have := hbx5.size; simp; omega) _ rfl ?_
              intro g9 cap9 w9 hown9 hgrow hnb hlt9
              have hbx9 := (nxAlloc hbx5 (.cells #[.string z] 9 (0, 0))).grown hgrow (by have := hbx5.size; simp; omega) (fun k hk => ownsRow_ge hown5 k hk)
              have hown1 := OwnS.one5 hown9
              have hy9 := (hgrow.block g8 (by omega) (fun e => hne8 e.symm)).trans (heap_keep e15 hy)
              have hf49 := (hgrow.block g4 (by omega) (fun e => hne4 e.symm)).trans ((e15.block g4 hf9).trans hf4)
              have hsz9 : w7.heap.size ≤ w9.heap.size := by have := hgrow.size; omega
              have hn8 : ∀ n c, (Value.slice (some ⟨g9, 0, none⟩) n c).ownBlock ≠ some g8 := fun n c e => by
                have e9 : g9 = g8 := by simpa [Value.ownBlock] using e
                rcases hnb with h | h
                · exact hne8 (h.trans (congrArg some e9))
                · omega
              have hn4 : ∀ n c, (Value.slice (some ⟨g9, 0, none⟩) n c).ownBlock ≠ some g4 := fun n c e => by
                have e9 : g9 = g4 := by simpa [Value.ownBlock] using e
                rcases hnb with h | h
                · exact hne4 (h.trans (congrArg some e9))
                · omega
              obtain ⟨y1, y2, y3⟩ := two_facts hy9
              refine hK.out (fun (w' : World) => w'.cell? ⟨g8, 0, none⟩ = some (.string p.1.str) ∧ w'.cell? ⟨g8, 1, none⟩ = some (.string p.2.str)) _ _ (fun _ h => h) ⟨y1, y2⟩ ?_
              clear hK K
              try dsimp only [Act.put]
              refine wpAnyH_take (i := 8) (oi := ?oi801) (v := ?vv801) ?hi801 ?hn801 ?hf801 ?hr801 ?hq801 (Or.inl ⟨?hg801, ?hy801⟩) (show (fun (w' : World) => w'.cell? ⟨g8, 0, none⟩ = some (.string p.1.str) ∧ w'.cell? ⟨g8, 1, none⟩ = some (.string p.2.str)) w9 from ⟨y1, y2⟩) ?rest801
              case hi801 => (simp only [List.getElem?_toArray, List.getElem?_cons_succ, List.getElem?_cons_zero]; rfl)
              case hn801 => kernel_rfl
              case hf801 => kernel_rfl
              case hr801 => kernel_rfl
              case hg801 => rfl
              case hy801 => (intro w hSw; (try dsimp only at hSw); go_simp; first | done | with_reducible rfl)
              case hq801 => exact fun _ _ _ h => h
              try dsimp only [Act.put]
              refine wpAnyH_done (by kernel_rfl) ?_ _
              simp only [List.setIfInBounds_toArray]
              clear hown5 hown9 hgrow hb3 hb3' hb4 hb4' hb5 hb5' e15 hown hz hH0 hH1 hH2 hH3 f1 f2 c1 hW hP hL hy hf4
              go_wp2_with fail
              go_roundw
              case rel => exact ⟨m + 1, by omega, by go_num, by rw [HNT.out]; exact hown1, hbx9, hy9, hf49, hsz9, hn8 _ _, hn4 _ _⟩
              case measure => simp [intOf]; omega
            · obtain rfl : m = 4 := by omega
              have hown4 : OwnS wq.heap.size wr u5 (nextS P (j + 1) 0) := by rw [← HNN.out]; exact hown
              have HO := Lib.hid hown4
              clear hown hown4
              go_wp2_with fail
              go_roundw
              case rel => exact ⟨j + 1, by omega, by go_num, HO.out, hbx⟩
              case measure => simp [intOf]; omega
        · obtain rfl : j = N := by omega
          have hown2 : OwnS wq.heap.size wr u5 (nextS P P.length 0) := by have h9 := hown; rw [HN.out] at h9; exact h9
          obtain ⟨X, hX⟩ : ∃ X, X = nextS P P.length 0 := ⟨_, rfl⟩
          have hXl : X.length ≤ 5464 := by rw [hX]; have := nextS_len P P.length 0; have := HN.out; omega
          have hXm : ∀ S : List ByteArray, (∀ x, x ∈ S ↔ x ∈ X) → ∀ x, x ∈ S ↔ x ∈ nextS P P.length 0 := fun S h x => by rw [h x, hX]
          rw [← hX] at hown2
          have HXM := Lib.hid hXm
          have hread := hown2.cells.read
          have HRX := Lib.hid hread
          clear hown hown2 hX hXm hread
          go_wp2_with fail
          refine (lnSort_any wq.heap.size X.length X rfl (by omega) _ wr hbx.size HRX.out).mono ?_; rintro e w5 ⟨v5, S, ⟨oa5, cap5, rfl, s1, s2, s3⟩, hSi, hSm, hSl, hb5, rfl⟩
          have hbx5 := nx hbx hb5
          obtain ⟨NS, hNS⟩ : ∃ NS, NS = S.length := ⟨_, rfl⟩
          have hNS9 : NS ≤ 5464 := by omega
          rw [← hNS] at s1 s3 ⊢
          unfold maxLen at s2
          have HS5 := Lib.hid s3
          have HSI := Lib.hid hSi
          have HSM := Lib.hid (HXM.out S hSm)
          have HNS := Lib.hid hNS
          have hgB : g < w5.heap.size := Nat.lt_of_lt_of_le hgl hbx5.size
          clear s3 hSi hSm hSl hb5 hbx hNS HRX HXM hXl
          by_cases hi0 : i = 0
          · have hk2 : (k : Int) < 2 := by have := HI.out; omega
            obtain ⟨out, hout⟩ : ∃ out : ByteArray → Bool, ∀ x, out x = true ↔ x ∈ P.map pTx := ⟨fun x => @decide (x ∈ P.map pTx) (Classical.propDecidable _), fun x => by simp⟩
            have ho : ∀ p, okP p → p.1.carets ≤ 8 → p.2.carets ≤ 8 → (out (pTx p) = true ↔ SphL i p ∨ befL i p) := fun p h1 h2 h3 => by
              rw [hout, mem_pTx HP.out (by omega) h1 h2]
              exact ⟨Or.inl, fun h => h.elim id (fun h => absurd (hi0 ▸ h) (befL_zero p))⟩
            have HOUT := Lib.hid hout
            have HO := Lib.hid ho
            clear hout ho hi0
            go_wp2_with fail
            go_loopw [12, 58] (fun l c wr => ∃ j : Nat, j ≤ NS ∧ c = .int .i64 j ∧ OwnS w5.heap.size wr l (keepS out S j) ∧ Below w5.heap.size w5 wr) (fun _ c _ => NS - (intOf c).toNat)
            case atStart => exact ⟨0, Nat.zero_le _, rfl, OwnS.nil _ _, Below.refl _ _⟩
            case round =>
              obtain ⟨j, hj, rfl, hl, hby⟩ := hrel
              have hbxr := hbx5.trans (hby.mono hbx5.size)
              by_cases hjS : j < NS
              · have hjS' : (j : Int) < (NS : Int) := by omega
                obtain ⟨g5, q5, rfl, _, hg5, c5⟩ := HS5.out j hjS
                replace c5 := (hby.cell (p := ⟨g5, q5 + j, none⟩) hg5).trans c5
                have hk := keepS_succ out (S := S) (j := j) (by rw [← HNS.out]; exact hjS)
                have hkl : (keepS out S j).length ≤ 5464 := by have := keepS_len out S j; have := HNS.out; omega
                obtain ⟨x, hx⟩ : ∃ x, x = S.getD j ⟨#[]⟩ := ⟨_, rfl⟩
                rw [← hx] at c5 hk
                have HKS := Lib.hid hk
                have cg := (hbxr.cell (p := ⟨g, i, none⟩) hgl).trans hcg
                have H1 := fun w9 (h : Below wq.heap.size wq w9) => lnHas_any w.heap.size (P.map pTx) HP.out.inc x _ w9 ((hRd0.out.read).keep h) (by rw [List.length_map, ← HN.out]; omega)
                obtain ⟨K, hK⟩ : ∃ K, K = keepS out S j := ⟨_, rfl⟩
                rw [← hK] at hl hkl
                have HK := Lib.hid hK
                clear hx hk hK
                go_wp2_with fail
                refine (H1 _ hbxr).mono ?_; rintro e w6 ⟨c, rfl, hc, rfl⟩
                cases c with
                | true =>
                  have hs : keepS out S (j + 1) = K := by rw [HKS.out, if_pos ((HOUT.out x).2 (hc.1 rfl)), List.append_nil, HK.out]
                  have HST := Lib.hid hs
                  clear hc hs c5 cg H1
                  go_wp2_with fail
                  go_roundw
                  case rel => exact ⟨j + 1, by omega, by go_num, by rw [HST.out]; exact hl, hby⟩
                  case measure => simp [intOf]; omega
                | false =>
                  have hs : keepS out S (j + 1) = K ++ [x] := by rw [HKS.out, if_neg (fun h => by have := hc.2 ((HOUT.out x).1 h); cases this), HK.out]
                  have HST := Lib.hid hs
                  unfold OwnS at hl
                  clear hc hs cg H1
                  go_wp2_with (at_builtin; go_loud (refine wpList_append_own _ rfl _ _ 46 rfl w5.heap.size 9 i0 (.string ⟨#[]⟩) 1 16 Try.underlying46 hi0 hz0 hz1 hz2 rfl (by decide) _ _ _ rfl (hl.alloc _) ⟨wr.heap.size, 0, none⟩ 1 1 [.string x] rfl rfl (new1 _ _ _) (one_str7 _) (by unfold maxLen; omega) (by omega) (by have := hby.size; simp; omega) ?_); intro v' wa hown' hgrow hnn)
                  have hbya := below_app hby hl (Nat.le_refl _) hgrow
                  have hla : OwnS w5.heap.size wa v' (K ++ [x]) := OwnS.one5 hown'
                  go_roundw
                  case rel => exact ⟨j + 1, by omega, by go_num, by rw [HST.out]; exact hla, hbya⟩
                  case measure => simp [intOf]; omega
              · obtain rfl : j = NS := by omega
                obtain ⟨Q, hQ, hQm⟩ := sphS_next (r := i) (by omega) HP.out HO.out HSI.out HSM.out
                have hl2 : OwnS w5.heap.size wr u12 (Q.map pTx) := by rw [hQm, ← HNS.out]; exact hl
                have hrdL := hl2.cells.read
                have hrdL0 := Lib.hid hrdL
                obtain ⟨oaL, cpL, rfl, _, _, _⟩ := hrdL
                obtain ⟨NL, hNL⟩ : ∃ NL, NL = (Q.map pTx).length := ⟨_, rfl⟩
                rw [← hNL] at hrdL0 ⊢
                have hrowW := OwnV.keep hrowH.out hbxr
                have hbwr := nx hbw hbxr
                have HQ9 := Lib.hid hQ
                unfold OwnV at hrowW
                have hvl : vs.length ≤ 6 := by have := hlen.out; omega
                clear hl hl2 hQ hQm hNL
                go_wp2_with (at_builtin; go_loud (refine wpList_append_own_at _ rfl _ _ 44 rfl w.heap.size 46 j0 (.slice none 0 0) 1 24 Try.underlying44 hj0 hy0 hy1 hy2 rfl (by decide) _ _ _ rfl (hrowW.alloc _) ⟨wr.heap.size, 0, none⟩ 1 1 [.slice oaL NL cpL] rfl rfl (new1 _ _ _) (one_row _ _ _) (by unfold maxLen; omega) (by omega) (size_al hbwr _) ?_); intro v' wa hown' hgrow hnn hob)
                have hbwa := below_app hbwr hrowW (Nat.le_refl _) hgrow
                have hrowN := OwnV.snoc hown'
                have hal := nxAlloc (Below.refl wr.heap.size wr) (.cells #[.slice oaL NL cpL] 46 (0, 0))
                go_roundw
                case rel =>
                  refine ⟨k + 1, vs ++ [.slice oaL NL cpL], by omega, by omega, by go_num, by show _ = _; simp [hlen.out], hrowN, fun r hr => ?_, hbwa⟩
                  rcases Nat.lt_or_ge r k with h1 | h1
                  · obtain ⟨Pr9, a1, a2⟩ := HSS.out r h1
                    have e9 : (vs ++ [Value.slice oaL NL cpL]).getD r undef = vs.getD r undef := by have := hlen.out; simp [List.getD_eq_getElem?_getD, List.getElem?_append_left (show r < vs.length by omega)]
                    refine ⟨Pr9, a1, ?_⟩
                    rw [e9]
                    exact ((a2.keep hbxr).keep hal).grow hgrow hob
                  · have e9 : (vs ++ [Value.slice oaL NL cpL]).getD r undef = .slice oaL NL cpL := by have := hlen.out; simp [List.getD_eq_getElem?_getD, show r = vs.length by omega]
                    refine ⟨Q, by rw [show r = i + 1 by have := HI.out; omega]; exact HQ9.out, ?_⟩
                    rw [e9]
                    exact ((ReadF.of (hrdL0.out.keep hal) (fun g9 h9 => by have h8 : (Value.slice (some ⟨g, 0, none⟩) k cap).ownBlock = some g9 := h9
                                                                           have e8 : g = g9 := by simpa [Value.ownBlock] using h8
                                                                           omega)).grow hgrow hob).mono (by have := hbw.size; have := hbx5.size; omega)
                case measure => simp [intOf]; omega
          · have hk2 : ¬ (k : Int) < 2 := by have := HI.out; omega
            obtain ⟨i2, hi2⟩ : ∃ i2, i = i2 + 1 := ⟨i - 1, by omega⟩
            have ew2 : IntKind.i64.wrap ((k : Int) - 2) = (i2 : Int) := by rw [IntKind.wrap_i64]; have := HI.out; omega
            have hi2k : i2 < k := by have := HI.out; omega
            have hi2k' : (i2 : Int) < (k : Int) := by omega
            obtain ⟨P2, hP2, hRd2⟩ := HSS.out i2 hi2k
            have hRd20 := Lib.hid hRd2
            obtain ⟨oa2, cp2, e2, _, _, _⟩ := hRd2
            obtain ⟨g', c', e9, _, _, _, _, hc2⟩ := hrowH.out.get2 hlen.out (i := i2) hi2k
            have eg : g = g' := by
              injection e9 with e9
              injection e9 with e9
              injection e9 with e9
            subst eg
            clear e9
            rw [e2] at hc2 hRd20
            have hl2 : (P2.map pTx).length ≤ 1365 := by rw [List.length_map]; exact hP2.len (by omega)
            obtain ⟨N2, hN2⟩ : ∃ N2, N2 = (P2.map pTx).length := ⟨_, rfl⟩
            rw [← hN2] at hc2 hRd20
            have HP2 := Lib.hid hP2
            obtain ⟨out, hout⟩ : ∃ out : ByteArray → Bool, ∀ x, out x = true ↔ x ∈ P.map pTx ∨ x ∈ P2.map pTx := ⟨fun x => @decide (x ∈ P.map pTx ∨ x ∈ P2.map pTx) (Classical.propDecidable _), fun x => by simp⟩
            have ho : ∀ p, okP p → p.1.carets ≤ 8 → p.2.carets ≤ 8 → (out (pTx p) = true ↔ SphL i p ∨ befL i p) := fun p h1 h2 h3 => by
              rw [hout, mem_pTx HP.out (by omega) h1 h2, mem_pTx hP2 (by omega) h1 h2]
              exact or_congr_right ⟨fun h => ⟨i2, hi2, h⟩, fun ⟨m, e, h⟩ => by rw [show i2 = m by omega]; exact h⟩
            clear hP2 e2 hN2 hi2
            have HOUT := Lib.hid hout
            have HO := Lib.hid ho
            clear hout ho hi0
            go_wp2_with fail
            go_loopw [12, 58] (fun l c wr => ∃ j : Nat, j ≤ NS ∧ c = .int .i64 j ∧ OwnS w5.heap.size wr l (keepS out S j) ∧ Below w5.heap.size w5 wr) (fun _ c _ => NS - (intOf c).toNat)
            case atStart => exact ⟨0, Nat.zero_le _, rfl, OwnS.nil _ _, Below.refl _ _⟩
            case round =>
              obtain ⟨j, hj, rfl, hl, hby⟩ := hrel
              have hbxr := hbx5.trans (hby.mono hbx5.size)
              by_cases hjS : j < NS
              · have hjS' : (j : Int) < (NS : Int) := by omega
                obtain ⟨g5, q5, rfl, _, hg5, c5⟩ := HS5.out j hjS
                replace c5 := (hby.cell (p := ⟨g5, q5 + j, none⟩) hg5).trans c5
                have hk := keepS_succ out (S := S) (j := j) (by rw [← HNS.out]; exact hjS)
                have hkl : (keepS out S j).length ≤ 5464 := by have := keepS_len out S j; have := HNS.out; omega
                obtain ⟨x, hx⟩ : ∃ x, x = S.getD j ⟨#[]⟩ := ⟨_, rfl⟩
                rw [← hx] at c5 hk
                have HKS := Lib.hid hk
                have cg := (hbxr.cell (p := ⟨g, i, none⟩) hgl).trans hcg
                have cg2 := (hbxr.cell (p := ⟨g, i2, none⟩) hgl).trans hc2
                have H1 := fun w9 (h : Below wq.heap.size wq w9) => lnHas_any w.heap.size (P.map pTx) HP.out.inc x _ w9 ((hRd0.out.read).keep h) (by rw [List.length_map, ← HN.out]; omega)
                have H2 := fun w9 (h : Below wq.heap.size wq w9) => lnHas_any w.heap.size (P2.map pTx) HP2.out.inc x _ w9 ((hRd20.out.read).keep h) (by omega)
                obtain ⟨K, hK⟩ : ∃ K, K = keepS out S j := ⟨_, rfl⟩
                rw [← hK] at hl hkl
                have HK := Lib.hid hK
                clear hx hk hK
                go_wp2_with fail
                refine (H1 _ hbxr).mono ?_; rintro e w6 ⟨c, rfl, hc, rfl⟩
                cases c with
                | true =>
                  have hs : keepS out S (j + 1) = K := by rw [HKS.out, if_pos ((HOUT.out x).2 (Or.inl (hc.1 rfl))), List.append_nil, HK.out]
                  have HST := Lib.hid hs
                  clear hc hs c5 cg cg2 H1 H2
                  go_wp2_with fail
                  go_roundw
                  case rel => exact ⟨j + 1, by omega, by go_num, by rw [HST.out]; exact hl, hby⟩
                  case measure => simp [intOf]; omega
                | false =>
                  go_wp2_with fail
                  refine (H2 _ hbxr).mono ?_; rintro e w7 ⟨c2, rfl, hd, rfl⟩
                  cases c2 with
                  | true =>
                    have hs : keepS out S (j + 1) = K := by rw [HKS.out, if_pos ((HOUT.out x).2 (Or.inr (hd.1 rfl))), List.append_nil, HK.out]
                    have HST := Lib.hid hs
                    clear hc hd hs c5 cg cg2 H1 H2
                    go_wp2_with fail
                    go_roundw
                    case rel => exact ⟨j + 1, by omega, by go_num, by rw [HST.out]; exact hl, hby⟩
                    case measure => simp [intOf]; omega
                  | false =>
                    have hs : keepS out S (j + 1) = K ++ [x] := by rw [HKS.out, if_neg (fun h => by rcases (HOUT.out x).1 h with h | h; have := hc.2 h; cases this; have := hd.2 h; cases this), HK.out]
                    have HST := Lib.hid hs
                    unfold OwnS at hl
                    clear hc hd hs cg cg2 H1 H2
                    go_wp2_with (at_builtin; go_loud (refine wpList_append_own _ rfl _ _ 46 rfl w5.heap.size 9 i0 (.string ⟨#[]⟩) 1 16 Try.underlying46 hi0 hz0 hz1 hz2 rfl (by decide) _ _ _ rfl (hl.alloc _) ⟨wr.heap.size, 0, none⟩ 1 1 [.string x] rfl rfl (new1 _ _ _) (one_str7 _) (by unfold maxLen; omega) (by omega) (by have := hby.size; simp; omega) ?_); intro v' wa hown' hgrow hnn)
                    have hbya := below_app hby hl (Nat.le_refl _) hgrow
                    have hla : OwnS w5.heap.size wa v' (K ++ [x]) := OwnS.one5 hown'
                    go_roundw
                    case rel => exact ⟨j + 1, by omega, by go_num, by rw [HST.out]; exact hla, hbya⟩
                    case measure => simp [intOf]; omega
              · obtain rfl : j = NS := by omega
                obtain ⟨Q, hQ, hQm⟩ := sphS_next (r := i) (by omega) HP.out HO.out HSI.out HSM.out
                have hl2 : OwnS w5.heap.size wr u12 (Q.map pTx) := by rw [hQm, ← HNS.out]; exact hl
                have hrdL := hl2.cells.read
                have hrdL0 := Lib.hid hrdL
                obtain ⟨oaL, cpL, rfl, _, _, _⟩ := hrdL
                obtain ⟨NL, hNL⟩ : ∃ NL, NL = (Q.map pTx).length := ⟨_, rfl⟩
                rw [← hNL] at hrdL0 ⊢
                have hrowW := OwnV.keep hrowH.out hbxr
                have hbwr := nx hbw hbxr
                have HQ9 := Lib.hid hQ
                unfold OwnV at hrowW
                have hvl : vs.length ≤ 6 := by have := hlen.out; omega
                clear hl hl2 hQ hQm hNL
                go_wp2_with (at_builtin; go_loud (refine wpList_append_own_at _ rfl _ _ 44 rfl w.heap.size 46 j0 (.slice none 0 0) 1 24 Try.underlying44 hj0 hy0 hy1 hy2 rfl (by decide) _ _ _ rfl (hrowW.alloc _) ⟨wr.heap.size, 0, none⟩ 1 1 [.slice oaL NL cpL] rfl rfl (new1 _ _ _) (one_row _ _ _) (by unfold maxLen; omega) (by omega) (size_al hbwr _) ?_); intro v' wa hown' hgrow hnn hob)
                have hbwa := below_app hbwr hrowW (Nat.le_refl _) hgrow
                have hrowN := OwnV.snoc hown'
                have hal := nxAlloc (Below.refl wr.heap.size wr) (.cells #[.slice oaL NL cpL] 46 (0, 0))
                go_roundw
                case rel =>
                  refine ⟨k + 1, vs ++ [.slice oaL NL cpL], by omega, by omega, by go_num, by show _ = _; simp [hlen.out], hrowN, fun r hr => ?_, hbwa⟩
                  rcases Nat.lt_or_ge r k with h1 | h1
                  · obtain ⟨Pr9, a1, a2⟩ := HSS.out r h1
                    have e9 : (vs ++ [Value.slice oaL NL cpL]).getD r undef = vs.getD r undef := by have := hlen.out; simp [List.getD_eq_getElem?_getD, List.getElem?_append_left (show r < vs.length by omega)]
                    refine ⟨Pr9, a1, ?_⟩
                    rw [e9]
                    exact ((a2.keep hbxr).keep hal).grow hgrow hob
                  · have e9 : (vs ++ [Value.slice oaL NL cpL]).getD r undef = .slice oaL NL cpL := by have := hlen.out; simp [List.getD_eq_getElem?_getD, show r = vs.length by omega]
                    refine ⟨Q, by rw [show r = i + 1 by have := HI.out; omega]; exact HQ9.out, ?_⟩
                    rw [e9]
                    exact ((ReadF.of (hrdL0.out.keep hal) (fun g9 h9 => by have h8 : (Value.slice (some ⟨g, 0, none⟩) k cap).ownBlock = some g9 := h9
                                                                           have e8 : g = g9 := by simpa [Value.ownBlock] using h8
                                                                           omega)).grow hgrow hob).mono (by have := hbw.size; have := hbx5.size; omega)
                case measure => simp [intOf]; omega
    · obtain rfl : k = n + 1 := by omega
      have hnk : ¬ ((n + 1 : Nat) : Int) ≤ (n : Int) := by omega
      have HF := Lib.hid (fun r (hr : r ≤ n) => hSs r (by omega))
      clear hSs
      go_wp2_with fail
      go_ret
      exact ⟨_, vs, hlen.out, hrow, fun r hr => by obtain ⟨P, h1, h2⟩ := HF.out r hr; exact ⟨P, h1, h2.read⟩, hbw, rfl⟩
end Go.Proofs.Yteflpaebckichaa

/-! Sz2 -/
namespace Go.Proofs.Yteflpaebckichaa
open Go.RowKit

theorem mem_pTx0 {r : Nat} {P : List Pr} (h : SphS r P) (hr : r ≤ 5) {p : Pr} (h1 : okP p) : pTx p ∈ P.map pTx ↔ SphL r p := by
  by_cases h2 : p.1.carets ≤ 8
  · exact mem_pTx h hr h1 h2
  · constructor
    · intro hm
      obtain ⟨q, hq, e⟩ := List.mem_map.1 hm
      obtain ⟨k1, k2, k3⟩ := sphL_eight (show r ≤ 6 by omega) ((h.mem q).1 hq)
      have e2 := congrArg ByteArray.size e
      have s1 := p.1.str_size
      have s2 := p.2.str_size
      have s3 := q.1.str_size
      have s4 := q.2.str_size
      unfold pTx at e2
      simp only [ByteArray.size_append] at e2
      unfold okP at h1 k1
      omega
    · intro hs
      exact absurd (sphL_eight (show r ≤ 6 by omega) hs).2.1 h2

set_option maxRecDepth 100000 in
set_option maxHeartbeats 2000000 in
theorem specLengthBySpheres_any (a b : ByteArray) (m : Int) (w : World) (ha : a.size ≤ 9223372036854775806) (hb : b.size ≤ 9223372036854775806) (_lo : -9223372036854775808 ≤ m) (_hi : m ≤ 9223372036854775807) :
    Calls Try.prog 8 #[.agg #[.string a, .string b], .int .i64 m] w (Gives (ansN (lbsO a b m)) w) := by
  have hg := fun w => prGood_any a b w ha hb
  unfold lbsO
  cases h : pairOf a b with
  | none =>
    rw [h] at hg
    change ∀ w, Calls _ _ _ w (Gives (.bool false) w) at hg
    clear h
    show Calls _ _ _ _ (Gives (.tuple #[.int .i64 0, .bool false]) w)
    go_enter Try.func8, Try.ntmps8
    go_wp2_with fail
    have hb0 : Below w.heap.size w (w.alloc (.cells #[.string a, .string b] 27 (0, 0))) := nxAlloc (Below.refl _ _) _
    have hx0 := heap_alloc_at w (.cells #[.string a, .string b] 27 (0, 0))
    generalize (w.alloc (.cells #[.string a, .string b] 27 (0, 0))) = w0 at *
    obtain ⟨hx0a, hx0b, hx0c⟩ := two_facts hx0
    obtain ⟨hx0f, hx0g⟩ := two_frozen hx0
    refine (hg _).mono ?_; rintro e w1 ⟨rfl, hb1⟩
    have hbw1 := nx hb0 hb1
    replace hx0 := heap_keep hb1 hx0
    clear hx0a hx0b hx0c hx0f hx0g
    obtain ⟨hx0a, hx0b, hx0c⟩ := two_facts hx0
    obtain ⟨hx0f, hx0g⟩ := two_frozen hx0
    clear hb1 hb0
    go_wp2_with fail
    go_ret2
    exact ⟨rfl, hbw1⟩
  | some p =>
    rw [h] at hg
    obtain ⟨rfl, rfl, hok, hc1, hc2⟩ := pairOf_some h
    obtain ⟨k1, k2, k3⟩ := red_small9 hok (by omega)
    clear h
    change ∀ w, Calls _ _ _ w (Gives (.bool true) w) at hg
    show Calls _ _ _ _ (Gives (ansN (if 0 ≤ m ∧ m ≤ 5 then sphF (red p) m.toNat else none)) w)
    by_cases h05 : ¬ (0 ≤ m ∧ m ≤ 5)
    · rw [if_neg h05]
      have hI := fun w => l1In_no m 0 5 w (by omega)
      show Calls _ _ _ _ (Gives (.tuple #[.int .i64 0, .bool false]) w)
      go_enter Try.func8, Try.ntmps8
      go_wp2_with fail
      have hb0 : Below w.heap.size w (w.alloc (.cells #[.string p.1.str, .string p.2.str] 27 (0, 0))) := nxAlloc (Below.refl _ _) _
      have hx0 := heap_alloc_at w (.cells #[.string p.1.str, .string p.2.str] 27 (0, 0))
      generalize (w.alloc (.cells #[.string p.1.str, .string p.2.str] 27 (0, 0))) = w0 at *
      obtain ⟨hx0a, hx0b, hx0c⟩ := two_facts hx0
      obtain ⟨hx0f, hx0g⟩ := two_frozen hx0
      refine (hg _).mono ?_; rintro e w1 ⟨rfl, hb1⟩
      have hbw1 := nx hb0 hb1
      replace hx0 := heap_keep hb1 hx0
      clear hx0a hx0b hx0c hx0f hx0g
      obtain ⟨hx0a, hx0b, hx0c⟩ := two_facts hx0
      obtain ⟨hx0f, hx0g⟩ := two_frozen hx0
      clear hb1 hb0
      go_wp2_with fail
      refine (hI _).mono ?_; rintro e w2 ⟨rfl, rfl⟩
      go_wp2_with fail
      go_ret2
      exact ⟨rfl, hbw1⟩
    rw [if_pos (by omega)]
    obtain ⟨n, rfl⟩ : ∃ n : Nat, m = n := ⟨m.toNat, by omega⟩
    have hn5 : n ≤ 5 := by omega
    rw [Int.toNat_natCast]
    have hI := fun w => l1In_yes (n : Int) 0 5 w (by omega) (by omega)
    have hR1 := fun w => prReduce_nil p w (by omega) (by omega)
    obtain ⟨R, hR⟩ : ∃ R, R = red p := ⟨_, rfl⟩
    rw [← hR] at k1 k2 k3 hR1 ⊢
    clear hR
    obtain ⟨A, hA⟩ : ∃ A, A = sphF R n := ⟨_, rfl⟩
    rw [← hA]
    have HA := Lib.hid hA
    clear hA
    have hTx := fun w => prTx_any R w (by omega) (by omega)
    have hSp := fun w => lnSpheres_any n hn5 w
    go_enter Try.func8, Try.ntmps8
    go_wp2_with fail
    have hb0 : Below w.heap.size w (w.alloc (.cells #[.string p.1.str, .string p.2.str] 27 (0, 0))) := nxAlloc (Below.refl _ _) _
    have hx0 := heap_alloc_at w (.cells #[.string p.1.str, .string p.2.str] 27 (0, 0))
    generalize (w.alloc (.cells #[.string p.1.str, .string p.2.str] 27 (0, 0))) = w0 at *
    obtain ⟨hx0a, hx0b, hx0c⟩ := two_facts hx0
    obtain ⟨hx0f, hx0g⟩ := two_frozen hx0
    refine (hg _).mono ?_; rintro e w1 ⟨rfl, hb1⟩
    have hbw1 := nx hb0 hb1
    replace hx0 := heap_keep hb1 hx0
    clear hx0a hx0b hx0c hx0f hx0g
    obtain ⟨hx0a, hx0b, hx0c⟩ := two_facts hx0
    obtain ⟨hx0f, hx0g⟩ := two_frozen hx0
    clear hb1 hb0
    go_wp2_with fail
    refine (hI _).mono ?_; rintro e w2 ⟨rfl, rfl⟩
    go_wp2_with fail
    refine (hR1 _).mono ?_; rintro e w2 ⟨rfl, hb2⟩
    have hbw2 := nx hbw1 hb2
    clear hb2 hx0 hx0a hx0b hx0c hx0f hx0g hbw1
    go_wp2_with fail
    refine (hTx _).mono ?_; rintro e w3 ⟨rfl, hb3⟩
    have hbw3 := nx hbw2 hb3
    clear hb3 hbw2
    go_wp2_with fail
    refine (hSp _).mono ?_; rintro e w4 ⟨v, vs, hlen, hown, hSs, hb4, rfl⟩
    obtain ⟨N, hN⟩ : ∃ N, vs.length = N := ⟨_, rfl⟩
    obtain ⟨g, cap, rfl, r1, r2, _, hgl, _⟩ := hown.get2 hN (i := 0) (by omega)
    have hNn : N = n + 1 := by omega
    have hcell : ∀ i, i < N → w4.cell? ⟨g, i, none⟩ = some (vs.getD i undef) := fun i hi => by
      obtain ⟨g', cap', e, _, _, _, _, hc⟩ := hown.get2 hN hi
      injection e with e _ _
      injection e with e
      injection e with e
      subst e
      exact hc
    have hbw4 := nx hbw3 hb4
    have HC := Lib.hid hcell
    have HS := Lib.hid hSs
    have HNn := Lib.hid hNn
    have hN6 : N ≤ 6 := by omega
    unfold maxLen at r2
    clear hcell hSs hlen hown hN hb4 hSp hNn hTx hR1 hI hg hbw3
    go_wp2_with fail
    go_loopw [7, 8, 23] (fun _ _ c wr => ∃ i : Nat, i ≤ N ∧ c = .int .i64 i ∧ wr = w4 ∧ Hid (∀ r, r < i → ¬ SphL r R)) (fun _ _ c _ => N - (intOf c).toNat)
    case atStart => exact ⟨0, Nat.zero_le _, rfl, rfl, fun r hr => by omega⟩
    case round =>
      obtain ⟨i, hi, rfl, rfl, hno⟩ := hrel
      by_cases hlt : i < N
      · have hlt' : (i : Int) < (N : Int) := by omega
        have c1 := HC.out i hlt
        obtain ⟨P, hP, hRd⟩ := HS.out i (by have := HNn.out; omega)
        have hi5 : i ≤ 5 := by omega
        have hmem := mem_pTx0 hP hi5 k1
        have hH := fun w9 (h : Below wr.heap.size wr w9) => lnHas_any _ (P.map pTx) hP.inc (pTx R) _ w9 (hRd.keep h) (by rw [List.length_map]; have := hP.len hi5; omega)
        obtain ⟨oa, cp, e2, _, _, _⟩ := hRd
        rw [e2] at c1 hH
        obtain ⟨NP, hNP⟩ : ∃ NP, NP = (P.map pTx).length := ⟨_, rfl⟩
        rw [← hNP] at c1 hH
        clear e2 hNP
        by_cases hS : SphL i R
        · have hfin : A = some i := by rw [HA.out]; exact sphF_some (by have := HNn.out; omega) hS
          subst hfin
          go_wp2_with fail
          refine (hH _ (Below.refl _ _)).mono ?_; rintro e w5 ⟨c, rfl, hc, rfl⟩
          have hct : c = true := hc.2 (hmem.2 hS)
          subst hct
          clear hc hH hmem
          go_wp2_with fail
          go_ret2
          exact ⟨rfl, hbw4⟩
        · have hno2 : ∀ r, r < i + 1 → ¬ SphL r R := fun r hr => by
            rcases Nat.lt_or_ge r i with h | h
            · exact hno.out r h
            · rw [show r = i by omega]; exact hS
          have HNO := Lib.hid hno2
          clear hno2
          go_wp2_with fail
          refine (hH _ (Below.refl _ _)).mono ?_; rintro e w5 ⟨c, rfl, hc, rfl⟩
          have hcf : c = false := by
            cases c with
            | false => rfl
            | true => exact absurd (hmem.1 (hc.1 rfl)) hS
          subst hcf
          clear hc hH hmem
          go_wp2_with fail
          go_roundw
          case rel => exact ⟨i + 1, by omega, by go_num, trivial, HNO⟩
          case measure => simp [intOf]; omega
      · obtain rfl : i = N := by omega
        have hfin : A = none := by rw [HA.out]; exact sphF_none (fun r hr => hno.out r (by have := HNn.out; omega))
        subst hfin
        go_wp2_with fail
        go_ret2
        exact ⟨rfl, hbw4⟩
end Go.Proofs.Yteflpaebckichaa
