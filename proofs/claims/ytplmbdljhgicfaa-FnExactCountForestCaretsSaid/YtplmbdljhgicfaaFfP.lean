/- Forests as plain data: lists of trees; what the texts of chapter 7 make of them. No program is named here. -/
import Derived.Test.YtplmbdljhgicfaaTeP
import Derived.Test.YtplmbdljhgicfaaTrFn
import Derived.Test.YtplmbdljhgicfaaPairOf
namespace Go.Proofs.Ytplmbdljhgicfaa

/-- The trees of a list of texts, if all are trees of at most eight carets. -/
def treesOf : List ByteArray → Option (List Tr)
  | [] => some []
  | s :: L =>
    match treeOf s with
    | none => none
    | some t =>
      match treesOf L with
      | none => none
      | some us => some (t :: us)

theorem treesOf_some : ∀ (L : List ByteArray) (us : List Tr), treesOf L = some us → L = us.map Tr.str ∧ ∀ u ∈ us, u.carets ≤ 8 := by
  intro L
  induction L with
  | nil => intro us h; simp [treesOf] at h; subst h; simp
  | cons s L ih =>
    intro us h
    rw [treesOf] at h
    cases hs : treeOf s with
    | none => rw [hs] at h; cases h
    | some t =>
      rw [hs] at h
      cases hL : treesOf L with
      | none => rw [hL] at h; cases h
      | some vs =>
        rw [hL] at h
        injection h with h
        subst h
        obtain ⟨h1, h2⟩ := ih vs hL
        obtain ⟨h3, h4⟩ := treeOf_some hs
        refine ⟨by rw [h3, h1]; rfl, ?_⟩
        intro u hu
        rcases List.mem_cons.1 hu with rfl | hu
        · exact h4
        · exact h2 u hu
theorem treesOf_map (us : List Tr) (h : ∀ u ∈ us, u.carets ≤ 8) : treesOf (us.map Tr.str) = some us := by
  induction us with
  | nil => rfl
  | cons u us ih =>
    rw [List.map_cons, treesOf, treeOf_str u (h u (by simp)), ih (fun v hv => h v (by simp [hv]))]
theorem treesOf_none : ∀ (L : List ByteArray), treesOf L = none → ∃ k, k < L.length ∧ treeOf (L.getD k ⟨#[]⟩) = none ∧ ∃ us, treesOf (L.take k) = some us := by
  intro L
  induction L with
  | nil => intro h; cases h
  | cons s L ih =>
    intro h
    rw [treesOf] at h
    cases hs : treeOf s with
    | none => exact ⟨0, by simp, by simpa using hs, [], rfl⟩
    | some t =>
      rw [hs] at h
      cases hL : treesOf L with
      | some vs => rw [hL] at h; cases h
      | none =>
        obtain ⟨k, h1, h2, us, h3⟩ := ih hL
        exact ⟨k + 1, by simp; omega, by simpa using h2, t :: us, by rw [List.take_succ_cons, treesOf, hs, h3]⟩

/-- The last tree is no leaf. -/
def lastB (us : List Tr) : Bool := match us.getLast? with | none => true | some u => !u.isLf
/-- A forest. -/
def okF (us : List Tr) : Bool := decide (us.length ≤ 8) && (decide (sumT us ≤ 8) && lastB us)
theorem okF_iff {us : List Tr} : okF us = true ↔ us.length ≤ 8 ∧ sumT us ≤ 8 ∧ lastB us = true := by simp [okF]
def forOf (L : List ByteArray) : Option (List Tr) := (treesOf L).bind fun us => if okF us = true then some us else none
theorem forOf_some {L : List ByteArray} {us : List Tr} (h : forOf L = some us) : L = us.map Tr.str ∧ us.length ≤ 8 ∧ sumT us ≤ 8 ∧ lastB us = true := by
  unfold forOf at h
  cases hL : treesOf L with
  | none => rw [hL] at h; cases h
  | some vs =>
    rw [hL] at h
    simp only [Option.bind_some] at h
    split at h
    · next ho => injection h with h; subst h; exact ⟨(treesOf_some L _ hL).1, okF_iff.1 ho⟩
    · cases h
theorem forOf_map {us : List Tr} (h : okF us = true) : forOf (us.map Tr.str) = some us := by
  have h2 := (okF_iff.1 h).2.1
  unfold forOf
  rw [treesOf_map us (fun u hu => by have := sumT_mem hu; omega)]
  simp [h]

theorem lastB_nil : lastB [] = true := rfl
theorem lastB_cons (u : Tr) {us : List Tr} (h : us ≠ []) : lastB (u :: us) = lastB us := by
  cases us with
  | nil => exact absurd rfl h
  | cons v vs => simp [lastB, List.getLast?_cons_cons]
theorem lastB_one (u : Tr) : lastB [u] = !u.isLf := rfl
theorem lastB_strip (us : List Tr) : lastB us = true ↔ stripT us = us := by
  rcases List.eq_nil_or_concat us with rfl | ⟨init, x, rfl⟩
  · simp [lastB, stripT]
  · rw [List.concat_eq_append]
    cases hx : x.isLf with
    | false => rw [stripT_last _ _ hx]; simp [lastB, hx]
    | true =>
      obtain rfl := (isLf_iff x).1 hx
      have h1 := stripT_lf init 1
      rw [show List.replicate 1 Tr.lf = [Tr.lf] from rfl] at h1
      rw [h1]
      constructor
      · intro h; simp [lastB, Tr.isLf] at h
      · intro h
        have h2 : (stripT init).length ≤ init.length := by
          unfold stripT
          rw [List.length_reverse]
          exact Nat.le_trans (List.Sublist.length_le (List.dropWhile_sublist _)) (by simp)
        have := congrArg List.length h
        simp at this
        omega
theorem stripT_length (us : List Tr) : (stripT us).length ≤ us.length := by
  unfold stripT
  rw [List.length_reverse]
  exact Nat.le_trans (List.Sublist.length_le (List.dropWhile_sublist _)) (by simp)
theorem dropLf_last (l : List Tr) : lastB ((l.dropWhile Tr.isLf).reverse) = true := by
  induction l with
  | nil => rfl
  | cons x l ih =>
    cases hx : x.isLf with
    | true => rw [List.dropWhile_cons_of_pos hx]; exact ih
    | false => rw [List.dropWhile_cons_of_neg (by rw [hx]; decide)]; simp [lastB, hx]
theorem stripT_lastB (us : List Tr) : lastB (stripT us) = true := dropLf_last us.reverse
theorem stripT_stripT (us : List Tr) : stripT (stripT us) = stripT us := (lastB_strip _).1 (stripT_lastB us)
theorem sumT_rev (us : List Tr) : sumT us.reverse = sumT us := by
  induction us with
  | nil => rfl
  | cons u us ih => rw [List.reverse_cons, sumT_app, ih, sumT_cons]; simp [sumT]; omega
theorem sumT_dropLf (l : List Tr) : sumT (l.dropWhile Tr.isLf) = sumT l := by
  induction l with
  | nil => rfl
  | cons x l ih =>
    cases hx : x.isLf with
    | true =>
      obtain rfl := (isLf_iff x).1 hx
      rw [List.dropWhile_cons_of_pos rfl, ih, sumT_cons]; simp [Tr.carets]
    | false => rw [List.dropWhile_cons_of_neg (by rw [hx]; decide)]
theorem sumT_strip (us : List Tr) : sumT (stripT us) = sumT us := by
  unfold stripT
  rw [sumT_rev, sumT_dropLf, sumT_rev]

theorem sides_sum (t : Tr) : sumT (sidesT t) + (sidesT t).length = t.carets := by
  induction t with
  | lf => rfl
  | nd l r _ ihr => rw [sidesT, sumT_cons, List.length_cons, Tr.carets]; omega
/-- What hangs at the left sides of the right side. -/
def hangT (t : Tr) : List Tr := stripT (sidesT t)
theorem hang_ok {t : Tr} (h : t.carets ≤ 8) : okF (hangT t) = true := by
  have h1 := sides_sum t
  have h2 := stripT_length (sidesT t)
  have h3 := sumT_strip (sidesT t)
  rw [okF_iff]
  unfold hangT
  exact ⟨by omega, by omega, stripT_lastB _⟩

/-- Each tree of the first list is part of that of the second one. -/
def partF : List Tr → List Tr → Bool
  | [], _ => true
  | u :: us, [] => u.isLf && partF us []
  | u :: us, v :: vs => u.part v && partF us vs
theorem partF_nil (us : List Tr) (h : lastB us = true) (hn : us ≠ []) : partF us [] = false := by
  induction us with
  | nil => exact absurd rfl hn
  | cons u us ih =>
    rw [partF]
    by_cases hu : us = []
    · subst hu
      rw [lastB_one] at h
      cases hx : u.isLf with
      | true => rw [hx] at h; cases h
      | false => rfl
    · rw [lastB_cons u hu] at h
      rw [ih h hu, Bool.and_false]
theorem part_comb (us : List Tr) : ∀ vs : List Tr, lastB us = true → (combT us).part (combT vs) = partF us vs := by
  induction us with
  | nil => intro vs _; cases vs <;> rfl
  | cons u us ih =>
    intro vs h
    cases vs with
    | nil => rw [partF_nil _ h (by simp)]; rfl
    | cons v vs =>
      show (u.part v && (combT us).part (combT vs)) = (u.part v && partF us vs)
      by_cases hu : us = []
      · subst hu; rw [ih vs rfl]
      · rw [lastB_cons u hu] at h; rw [ih vs h]
theorem part_iff_join (a : Tr) : ∀ b : Tr, a.part b = true ↔ a.join b = b := by
  induction a with
  | lf => intro b; simp [Tr.part, Tr.join]
  | nd l r ihl ihr =>
    intro b
    cases b with
    | lf => simp [Tr.part, Tr.join]
    | nd p q => simp [Tr.part, Tr.join, ihl, ihr]
def atF (us : List Tr) (k : Nat) : Tr := us.getD k .lf
theorem part_lf (u : Tr) : u.part .lf = u.isLf := by cases u <;> rfl
theorem partF_all (us : List Tr) : ∀ vs : List Tr, partF us vs = true ↔ ∀ k, k < us.length → (us.getD k .lf).part (vs.getD k .lf) = true := by
  induction us with
  | nil => intro vs; simp [partF]
  | cons u us ih =>
    intro vs
    have hsplit : (∀ k, k < (u :: us).length → ((u :: us).getD k .lf).part (vs.getD k .lf) = true) ↔ u.part (vs.getD 0 .lf) = true ∧ ∀ k, k < us.length → (us.getD k .lf).part (vs.tail.getD k .lf) = true := by
      constructor
      · intro h
        refine ⟨by simpa using h 0 (by simp), fun k hk => ?_⟩
        have := h (k + 1) (by simp; omega)
        cases vs <;> simpa using this
      · intro ⟨h0, h1⟩ k hk
        cases k with
        | zero => simpa using h0
        | succ k =>
          have := h1 k (by simp at hk; omega)
          cases vs <;> simpa using this
    rw [hsplit]
    cases vs with
    | nil => rw [partF, Bool.and_eq_true, ih []]; simp [part_lf]
    | cons v vs => rw [partF, Bool.and_eq_true, ih vs]; simp

/-- Joined trees of two lists. -/
def joinF : List Tr → List Tr → List Tr
  | [], vs => vs
  | u :: us, [] => u :: us
  | u :: us, v :: vs => u.join v :: joinF us vs
theorem join_comb (us : List Tr) : ∀ vs : List Tr, (combT us).join (combT vs) = combT (joinF us vs) := by
  induction us with
  | nil => intro vs; rfl
  | cons u us ih =>
    intro vs
    cases vs with
    | nil => rfl
    | cons v vs => show Tr.nd (u.join v) ((combT us).join (combT vs)) = _; rw [ih]; rfl
theorem join_lf (u : Tr) : u.join .lf = u := by cases u <;> rfl
theorem joinF_length (us : List Tr) : ∀ vs : List Tr, (joinF us vs).length = max us.length vs.length := by
  induction us with
  | nil => intro vs; simp [joinF]
  | cons u us ih =>
    intro vs
    cases vs with
    | nil => simp [joinF]
    | cons v vs => simp [joinF, ih]
theorem joinF_get (us : List Tr) : ∀ (vs : List Tr) (k : Nat), (joinF us vs).getD k .lf = (us.getD k .lf).join (vs.getD k .lf) := by
  induction us with
  | nil => intro vs k; simp [joinF, Tr.join]
  | cons u us ih =>
    intro vs k
    cases vs with
    | nil => simp [joinF, join_lf]
    | cons v vs =>
      cases k with
      | zero => simp [joinF]
      | succ k => simpa [joinF] using ih vs k
/-- Common trees of two lists. -/
def comF : List Tr → List Tr → List Tr
  | u :: us, v :: vs => u.com v :: comF us vs
  | _, _ => []
theorem com_comb (us : List Tr) : ∀ vs : List Tr, (combT us).com (combT vs) = combT (comF us vs) := by
  induction us with
  | nil => intro vs; cases vs <;> rfl
  | cons u us ih =>
    intro vs
    cases vs with
    | nil => rfl
    | cons v vs => show Tr.nd (u.com v) ((combT us).com (combT vs)) = _; rw [ih]; rfl
theorem com_lf (u : Tr) : u.com .lf = .lf := by cases u <;> rfl
/-- Common trees of two lists, leaves behind the shorter one. -/
def comL (us vs : List Tr) : List Tr := (List.range (max us.length vs.length)).map fun k => (us.getD k .lf).com (vs.getD k .lf)
def joinL (us vs : List Tr) : List Tr := (List.range (max us.length vs.length)).map fun k => (us.getD k .lf).join (vs.getD k .lf)
theorem joinL_eq (us vs : List Tr) : joinL us vs = joinF us vs := by
  apply List.ext_getElem
  · simp [joinL, joinF_length]
  · intro k h1 h2
    have h3 := joinF_get us vs k
    rw [List.getD_eq_getElem?_getD, List.getElem?_eq_getElem h2, Option.getD_some] at h3
    rw [h3]
    simp [joinL]
theorem comL_cons (u v : Tr) (us vs : List Tr) : comL (u :: us) (v :: vs) = u.com v :: comL us vs := by
  unfold comL
  rw [show max (u :: us).length (v :: vs).length = max us.length vs.length + 1 by simp, List.range_succ_eq_map]
  simp
theorem comL_nil1 (vs : List Tr) : comL [] vs = List.replicate vs.length .lf := by
  unfold comL
  apply List.ext_getElem
  · simp
  · intro k h1 h2; simp [Tr.com]
theorem comL_nil2 (us : List Tr) : comL us [] = List.replicate us.length .lf := by
  unfold comL
  apply List.ext_getElem
  · simp
  · intro k h1 h2; simp [com_lf]
theorem comL_eq (us : List Tr) : ∀ vs : List Tr, ∃ m, comL us vs = comF us vs ++ List.replicate m .lf := by
  induction us with
  | nil => intro vs; exact ⟨vs.length, by rw [comL_nil1]; simp [comF]⟩
  | cons u us ih =>
    intro vs
    cases vs with
    | nil => exact ⟨(u :: us).length, by rw [comL_nil2]; simp [comF]⟩
    | cons v vs => obtain ⟨m, hm⟩ := ih vs; exact ⟨m, by rw [comL_cons, hm]; rfl⟩
theorem comL_strip (us vs : List Tr) : stripT (comL us vs) = stripT (comF us vs) := by
  obtain ⟨m, hm⟩ := comL_eq us vs
  rw [hm, stripT_lf]
theorem comF_length (us : List Tr) : ∀ vs : List Tr, (comF us vs).length ≤ us.length := by
  induction us with
  | nil => intro vs; simp [comF]
  | cons u us ih =>
    intro vs
    cases vs with
    | nil => simp [comF]
    | cons v vs => have := ih vs; simp [comF]; omega
theorem comF_sum (us : List Tr) : ∀ vs : List Tr, sumT (comF us vs) ≤ sumT us := by
  induction us with
  | nil => intro vs; simp [comF, sumT]
  | cons u us ih =>
    intro vs
    cases vs with
    | nil => simp [comF, sumT]
    | cons v vs => have := ih vs; have := com_carets u v; rw [comF, sumT_cons, sumT_cons]; omega
theorem joinF_sum (us : List Tr) : ∀ vs : List Tr, sumT (joinF us vs) ≤ sumT us + sumT vs := by
  induction us with
  | nil => intro vs; simp [joinF, sumT]
  | cons u us ih =>
    intro vs
    cases vs with
    | nil => simp [joinF, sumT]
    | cons v vs => have := ih vs; have := join_carets u v; rw [joinF, sumT_cons, sumT_cons, sumT_cons]; omega
theorem join_lf_iff (u v : Tr) : (u.join v).isLf = (u.isLf && v.isLf) := by cases u <;> cases v <;> rfl
theorem joinF_last (us : List Tr) : ∀ vs : List Tr, lastB us = true → lastB vs = true → lastB (joinF us vs) = true := by
  induction us with
  | nil => intro vs _ h; exact h
  | cons u us ih =>
    intro vs h k
    cases vs with
    | nil => exact h
    | cons v vs =>
      rw [joinF]
      by_cases hu : us = []
      · subst hu
        rw [joinF]
        by_cases hv : vs = []
        · subst hv
          rw [lastB_one] at h k ⊢
          rw [join_lf_iff]
          cases h1 : u.isLf with
          | true => rw [h1] at h; cases h
          | false => rfl
        · rw [lastB_cons _ hv] at k ⊢; exact k
      · rw [lastB_cons _ hu] at h
        by_cases hv : vs = []
        · subst hv
          have e : joinF us [] = us := by cases us <;> rfl
          rw [e, lastB_cons _ hu]; exact h
        · rw [lastB_cons _ hv] at k
          have hne : joinF us vs ≠ [] := by
            intro e
            have := joinF_length us vs
            rw [e] at this
            have h2 : 0 < us.length := List.length_pos_iff.2 hu
            simp at this
            omega
          rw [lastB_cons _ hne]
          exact ih vs h k
end Go.Proofs.Ytplmbdljhgicfaa
