/- Trees from the addresses of their leaves. No program is named here. -/
import Derived.Test.YtdpfoeknphiheaaAddrP
namespace Go.Proofs.Ytdpfoeknphiheaa

/-- The spec's reading of addresses: the tree behind an address and how many addresses it takes (k: how many levels are left). -/
def withS : Nat → List ByteArray → ByteArray → Option (Tr × Nat)
  | 0, _, _ => none
  | _ + 1, [], _ => none
  | k + 1, a :: L, here =>
    if a = here then some (.lf, 1)
    else match withS k (a :: L) (here ++ ⟨#[48]⟩) with
      | none => none
      | some (l, n) =>
        match withS k ((a :: L).drop n) (here ++ ⟨#[49]⟩) with
        | none => none
        | some (r, m) => some (.nd l r, n + m)

def prefixB (a here : ByteArray) : Bool := a.data.toList.take here.size == here.data.toList

/-- The program's reading: the tree and what is left of the addresses. -/
def withI : Nat → List ByteArray → ByteArray → Option (Tr × List ByteArray)
  | 0, _, _ => none
  | _ + 1, [], _ => none
  | k + 1, a :: L, here =>
    if prefixB a here = false then none
    else if a = here then some (.lf, L)
    else match withI k (a :: L) (here ++ ⟨#[48]⟩) with
      | none => none
      | some (l, L1) =>
        match withI k L1 (here ++ ⟨#[49]⟩) with
        | none => none
        | some (r, L2) => some (.nd l r, L2)

theorem withS_sound (k : Nat) : ∀ (L : List ByteArray) (here : ByteArray) (t : Tr) (n : Nat), withS k L here = some (t, n) → n = t.carets + 1 ∧ n ≤ L.length ∧ L.take n = t.addrs here := by
  induction k with
  | zero => intro L here t n h; simp [withS] at h
  | succ k ih =>
    intro L here t n h
    match L with
    | [] => simp [withS] at h
    | a :: L =>
      rw [withS] at h
      split at h
      · next ha => simp at h; obtain ⟨rfl, rfl⟩ := h; exact ⟨rfl, by simp, by simp [Tr.addrs, ha]⟩
      · split at h
        · simp at h
        · next l n1 h1 =>
          split at h
          · simp at h
          · next r m h2 =>
            simp at h
            obtain ⟨rfl, rfl⟩ := h
            obtain ⟨e1, l1, f1⟩ := ih _ _ _ _ h1
            obtain ⟨e2, l2, f2⟩ := ih _ _ _ _ h2
            rw [List.length_drop] at l2
            refine ⟨by simp [Tr.carets]; omega, by omega, ?_⟩
            rw [List.take_add, f1, f2, Tr.addrs]

theorem addrs_cons (t : Tr) : ∀ here, ∃ a L, t.addrs here = a :: L ∧ prefixB a here = true ∧ here.size ≤ a.size := by
  induction t with
  | lf => intro here; exact ⟨here, [], rfl, by unfold prefixB; rw [Lib.size_eq, List.take_length]; simp, Nat.le_refl _⟩
  | nd l r ihl _ =>
    intro here
    obtain ⟨a, L, h1, h2, h3⟩ := ihl (here ++ ⟨#[48]⟩)
    refine ⟨a, L ++ r.addrs (here ++ ⟨#[49]⟩), by rw [Tr.addrs, h1]; rfl, ?_, ?_⟩
    · unfold prefixB at *
      have e : (here ++ (⟨#[48]⟩ : ByteArray)).size = here.size + 1 := ByteArray.size_append
      rw [e] at h2
      simp only [beq_iff_eq] at h2 ⊢
      have h4 := congrArg (List.take here.size) h2
      rw [List.take_take, Nat.min_eq_left (by omega)] at h4
      rw [h4, ByteArray.data_append, Array.toList_append, List.take_append_of_le_length (by rw [← Lib.size_eq]; exact Nat.le_refl _), Lib.size_eq, List.take_length]
    · have e : (here ++ (⟨#[48]⟩ : ByteArray)).size = here.size + 1 := ByteArray.size_append
      omega

theorem addrs_ne (l r : Tr) (here : ByteArray) {a : ByteArray} {L : List ByteArray} (h : (Tr.nd l r).addrs here = a :: L) : a ≠ here := by
  obtain ⟨b, M, h1, _, h3⟩ := addrs_cons l (here ++ ⟨#[48]⟩)
  rw [Tr.addrs, h1] at h
  injection h with h _
  have e : (here ++ (⟨#[48]⟩ : ByteArray)).size = here.size + 1 := ByteArray.size_append
  intro heq
  rw [← h] at heq
  rw [heq] at h3
  omega

theorem withS_complete (t : Tr) : ∀ (k : Nat) (here : ByteArray) (r : List ByteArray), t.carets < k → withS k (t.addrs here ++ r) here = some (t, t.carets + 1) := by
  induction t with
  | lf => intro k here r h; cases k with | zero => omega | succ k => simp [Tr.addrs, withS, Tr.carets]
  | nd a b iha ihb =>
    intro k here r h
    cases k with
    | zero => omega
    | succ k =>
      have h' : a.carets < k ∧ b.carets < k := by simp [Tr.carets] at h; omega
      obtain ⟨x, L, hx, _, _⟩ := addrs_cons (.nd a b) here
      have hne := addrs_ne a b here hx
      rw [hx, List.cons_append, withS, if_neg hne]
      have e : x :: (L ++ r) = a.addrs (here ++ ⟨#[48]⟩) ++ (b.addrs (here ++ ⟨#[49]⟩) ++ r) := by
        rw [← List.cons_append, ← hx, Tr.addrs, List.append_assoc]
      rw [e, iha k _ _ h'.1]
      show (match withS k ((a.addrs (here ++ ⟨#[48]⟩) ++ (b.addrs (here ++ ⟨#[49]⟩) ++ r)).drop (a.carets + 1)) (here ++ ⟨#[49]⟩) with | none => none | some (q, m) => _) = _
      rw [List.drop_left' (addrs_length a _), ihb k _ _ h'.2]
      simp [Tr.carets]; omega

theorem withI_sound (k : Nat) : ∀ (L : List ByteArray) (here : ByteArray) (t : Tr) (R : List ByteArray), withI k L here = some (t, R) → L = t.addrs here ++ R := by
  induction k with
  | zero => intro L here t n h; simp [withI] at h
  | succ k ih =>
    intro L here t R h
    match L with
    | [] => simp [withI] at h
    | a :: L =>
      rw [withI] at h
      split at h
      · simp at h
      · split at h
        · next ha => simp at h; obtain ⟨rfl, rfl⟩ := h; simp [Tr.addrs, ha]
        · split at h
          · simp at h
          · next l L1 h1 =>
            split at h
            · simp at h
            · next r L2 h2 =>
              simp at h
              obtain ⟨rfl, rfl⟩ := h
              rw [ih _ _ _ _ h1, ih _ _ _ _ h2, Tr.addrs, List.append_assoc]

theorem withI_complete (t : Tr) : ∀ (k : Nat) (here : ByteArray) (r : List ByteArray), t.carets < k → withI k (t.addrs here ++ r) here = some (t, r) := by
  induction t with
  | lf =>
    intro k here r h
    cases k with
    | zero => omega
    | succ k =>
      obtain ⟨x, L, hx, hp, _⟩ := addrs_cons .lf here
      simp [Tr.addrs] at hx
      obtain ⟨rfl, rfl⟩ := hx
      simp [Tr.addrs, withI, hp]
  | nd a b iha ihb =>
    intro k here r h
    cases k with
    | zero => omega
    | succ k =>
      have h' : a.carets < k ∧ b.carets < k := by simp [Tr.carets] at h; omega
      obtain ⟨x, L, hx, hp, _⟩ := addrs_cons (.nd a b) here
      have hne := addrs_ne a b here hx
      rw [hx, List.cons_append, withI, if_neg (by rw [hp]; decide), if_neg hne]
      have e : x :: (L ++ r) = a.addrs (here ++ ⟨#[48]⟩) ++ (b.addrs (here ++ ⟨#[49]⟩) ++ r) := by
        rw [← List.cons_append, ← hx, Tr.addrs, List.append_assoc]
      rw [e, iha k _ _ h'.1]
      show (match withI k (b.addrs (here ++ ⟨#[49]⟩) ++ r) (here ++ ⟨#[49]⟩) with | none => none | some (q, m) => _) = _
      rw [ihb k _ _ h'.2]

/-- The tree with such addresses, if there is one: at most nine of them. -/
def withO (L : List ByteArray) : Option Tr :=
  if L.length ≤ 9 then
    match withS 9 L ⟨#[]⟩ with
    | some (t, n) => if n = L.length then some t else none
    | none => none
  else none

theorem withO_of {L : List ByteArray} {t : Tr} {n : Nat} (hl : L.length ≤ 9) (h : withS 9 L ⟨#[]⟩ = some (t, n)) : withO L = if n = L.length then some t else none := by
  unfold withO; rw [if_pos hl, h]
theorem withO_no {L : List ByteArray} (h : withS 9 L ⟨#[]⟩ = none) : withO L = none := by
  unfold withO; rw [h]; simp

theorem withO_some {L : List ByteArray} {t : Tr} (h : withO L = some t) : L = t.addrs ⟨#[]⟩ ∧ t.carets ≤ 8 := by
  unfold withO at h
  split at h
  · next hl =>
    split at h
    · next t' n hw =>
      split at h
      · next hn =>
        injection h with h
        subst h
        obtain ⟨e1, e2, e3⟩ := withS_sound _ _ _ _ _ hw
        exact ⟨by rw [← e3, hn, List.take_length], by omega⟩
      · simp at h
    · simp at h
  · simp at h

theorem withO_addrs (t : Tr) (h : t.carets ≤ 8) : withO (t.addrs ⟨#[]⟩) = some t := by
  have hl := addrs_length t ⟨#[]⟩
  have hc := withS_complete t 9 ⟨#[]⟩ [] (by omega)
  rw [List.append_nil] at hc
  unfold withO
  rw [if_pos (by omega), hc]
  simp [hl]

theorem withO_eq {L : List ByteArray} (hl : L.length ≤ 9) : withO L = match withI 10 L ⟨#[]⟩ with | some (t, []) => some t | _ => none := by
  cases h : withO L with
  | some t =>
    obtain ⟨rfl, hc⟩ := withO_some h
    have := withI_complete t 10 ⟨#[]⟩ [] (by omega)
    rw [List.append_nil] at this
    rw [this]
  | none =>
    cases hi : withI 10 L ⟨#[]⟩ with
    | none => rfl
    | some p =>
      obtain ⟨t, R⟩ := p
      cases R with
      | cons a R => rfl
      | nil =>
        have e := withI_sound _ _ _ _ _ hi
        rw [List.append_nil] at e
        subst e
        have hc := addrs_length t ⟨#[]⟩
        rw [withO_addrs t (by omega)] at h
        simp at h
end Go.Proofs.Ytdpfoeknphiheaa
