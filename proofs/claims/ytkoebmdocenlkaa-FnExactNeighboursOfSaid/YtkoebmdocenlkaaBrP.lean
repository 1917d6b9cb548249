/- Rotations of trees: at the top, at an address, all places, chains to the right comb. No program is named here. -/
import Derived.Test.YtkoebmdocenlkaaAtP
namespace Go.Proofs.Ytkoebmdocenlkaa
namespace Tr
/-- Rotated at the top, or back (true). -/
def rot : Bool → Tr → Option Tr
  | false, .nd (.nd a b) c => some (.nd a (.nd b c))
  | true, .nd a (.nd b c) => some (.nd (.nd a b) c)
  | _, _ => none
def rotAt (k : Bool) : Tr → List UInt8 → Option Tr
  | t, [] => t.rot k
  | .lf, _ :: _ => none
  | .nd l r, c :: cs => if c = 48 then (l.rotAt k cs).map (fun x => .nd x r) else if c = 49 then (r.rotAt k cs).map (fun x => .nd l x) else none
def here1 (k : Bool) (t : Tr) (here : ByteArray) : List ByteArray := if (t.rot k).isSome then [here] else []
def spots (k : Bool) : Tr → ByteArray → List ByteArray
  | .lf, _ => []
  | .nd l r, here => here1 k (.nd l r) here ++ (spots k l (here ++ ⟨#[48]⟩) ++ spots k r (here ++ ⟨#[49]⟩))
/-- The carets in all left sides. -/
def lw : Tr → Nat
  | .lf => 0
  | .nd l r => l.lw + r.lw + l.carets
end Tr

theorem rot_carets {k : Bool} {t u : Tr} (h : t.rot k = some u) : u.carets = t.carets := by
  unfold Tr.rot at h
  split at h
  · injection h with h; subst h; simp [Tr.carets]; omega
  · injection h with h; subst h; simp [Tr.carets]; omega
  · simp at h

theorem rotAt_nil (k : Bool) (t : Tr) : t.rotAt k [] = t.rot k := by cases t <;> rfl

theorem rotAt_carets {k : Bool} : ∀ (p : List UInt8) {t u : Tr}, t.rotAt k p = some u → u.carets = t.carets := by
  intro p
  induction p with
  | nil => intro t u h; rw [rotAt_nil] at h; exact rot_carets h
  | cons c cs ih =>
    intro t u h
    cases t with
    | lf => simp [Tr.rotAt] at h
    | nd l r =>
      rw [Tr.rotAt] at h
      split at h
      · cases g : l.rotAt k cs with
        | none => rw [g] at h; simp at h
        | some x => rw [g] at h; simp at h; subst h; have := ih g; simp [Tr.carets, this]
      · split at h
        · cases g : r.rotAt k cs with
          | none => rw [g] at h; simp at h
          | some x => rw [g] at h; simp at h; subst h; have := ih g; simp [Tr.carets, this]
        · simp at h

theorem rotAt_long {k : Bool} : ∀ (p : List UInt8) {t : Tr}, t.carets < p.length → t.rotAt k p = none := by
  intro p
  induction p with
  | nil => intro t h; simp at h
  | cons c cs ih =>
    intro t h
    cases t with
    | lf => rfl
    | nd l r =>
      simp [Tr.carets] at h
      rw [Tr.rotAt, ih (by omega), ih (by omega)]
      simp

theorem rot_lw {t u : Tr} (h : t.rot false = some u) : u.lw < t.lw := by
  unfold Tr.rot at h
  split at h
  · injection h with h; subst h; simp [Tr.lw, Tr.carets]; omega
  · simp at *
  · simp at h

theorem rotAt_lw : ∀ (p : List UInt8) {t u : Tr}, t.rotAt false p = some u → u.lw < t.lw := by
  intro p
  induction p with
  | nil => intro t u h; rw [rotAt_nil] at h; exact rot_lw h
  | cons c cs ih =>
    intro t u h
    cases t with
    | lf => simp [Tr.rotAt] at h
    | nd l r =>
      rw [Tr.rotAt] at h
      split at h
      · cases g : l.rotAt false cs with
        | none => rw [g] at h; simp at h
        | some x => rw [g] at h; simp at h; subst h; have := ih g; have := rotAt_carets _ g; simp [Tr.lw]; omega
      · split at h
        · cases g : r.rotAt false cs with
          | none => rw [g] at h; simp at h
          | some x => rw [g] at h; simp at h; subst h; have := ih g; simp [Tr.lw]; omega
        · simp at h

theorem lw_le (t : Tr) : t.lw ≤ t.carets * t.carets := by
  induction t with
  | lf => simp [Tr.lw]
  | nd l r ihl ihr =>
    simp only [Tr.lw, Tr.carets]
    have e : (l.carets + r.carets + 1) * (l.carets + r.carets + 1) = l.carets * l.carets + r.carets * r.carets + 2 * (l.carets * r.carets) + 2 * l.carets + 2 * r.carets + 1 := by
      simp [Nat.add_mul, Nat.mul_add]
      have := Nat.mul_comm l.carets r.carets
      omega
    have := Nat.zero_le (l.carets * r.carets)
    omega

theorem rot_lf (k : Bool) : Tr.lf.rot k = none := by cases k <;> rfl

/-- Where a tree can be rotated, it can be rotated there. -/
theorem spots_mem {k : Bool} : ∀ (t : Tr) (here a : ByteArray), a ∈ t.spots k here → ∃ p, a.data.toList = here.data.toList ++ p ∧ (t.rotAt k p).isSome = true := by
  intro t
  induction t with
  | lf => intro here a h; simp [Tr.spots] at h
  | nd l r ihl ihr =>
    intro here a h
    rw [Tr.spots, List.mem_append, List.mem_append] at h
    have e : ∀ c : UInt8, (here ++ (⟨#[c]⟩ : ByteArray)).data.toList = here.data.toList ++ [c] := fun c => by simp
    rcases h with h | h | h
    · unfold Tr.here1 at h
      split at h
      · next g => simp at h; subst h; exact ⟨[], by simp, by rw [rotAt_nil]; exact g⟩
      · simp at h
    · obtain ⟨p, hp, hs⟩ := ihl _ _ h
      refine ⟨48 :: p, by rw [hp, e]; simp, ?_⟩
      rw [Tr.rotAt, if_pos rfl]
      cases g : l.rotAt k p with
      | none => rw [g] at hs; simp at hs
      | some x => rfl
    · obtain ⟨p, hp, hs⟩ := ihr _ _ h
      refine ⟨49 :: p, by rw [hp, e]; simp, ?_⟩
      rw [Tr.rotAt, if_neg (by decide), if_pos rfl]
      cases g : r.rotAt k p with
      | none => rw [g] at hs; simp at hs
      | some x => rfl

theorem spots_mem0 {k : Bool} {t : Tr} {a : ByteArray} (h : a ∈ t.spots k ⟨#[]⟩) : ∃ u, t.rotAt k a.data.toList = some u := by
  obtain ⟨p, hp, hs⟩ := spots_mem t _ a h
  have : a.data.toList = p := by simpa using hp
  rw [this]
  exact Option.isSome_iff_exists.1 hs

theorem here1_len (k : Bool) (t : Tr) (here : ByteArray) : (t.here1 k here).length ≤ 1 := by unfold Tr.here1; split <;> simp
theorem spots_len {k : Bool} (t : Tr) : ∀ here, (t.spots k here).length ≤ t.carets := by
  induction t with
  | lf => intro here; simp [Tr.spots]
  | nd l r ihl ihr =>
    intro here
    have h1 := here1_len k (.nd l r) here
    have h2 := ihl (here ++ ⟨#[48]⟩)
    have h3 := ihr (here ++ ⟨#[49]⟩)
    simp only [Tr.spots, Tr.carets, List.length_append]; omega
theorem spots_size {k : Bool} (t : Tr) : ∀ here, ∀ s ∈ t.spots k here, s.size ≤ here.size + t.carets := by
  induction t with
  | lf => intro here s h; simp [Tr.spots] at h
  | nd l r ihl ihr =>
    intro here s h
    rw [Tr.spots, List.mem_append, List.mem_append] at h
    have e0 : ∀ c : UInt8, (here ++ (⟨#[c]⟩ : ByteArray)).size = here.size + 1 := fun c => ByteArray.size_append
    simp only [Tr.carets]
    rcases h with h | h | h
    · unfold Tr.here1 at h
      split at h
      · simp at h; subst h; omega
      · simp at h
    · have := ihl _ s h; rw [e0] at this; omega
    · have := ihr _ s h; rw [e0] at this; omega

/-- The tree behind a rotation at the first place, if there is one. -/
def nextT (t : Tr) : Option Tr :=
  match t.spots false ⟨#[]⟩ with
  | [] => none
  | a :: _ => t.rotAt false a.data.toList
theorem nextT_lw {t u : Tr} (h : nextT t = some u) : u.lw < t.lw := by
  unfold nextT at h
  split at h
  · simp at h
  · exact rotAt_lw _ h
theorem nextT_carets {t u : Tr} (h : nextT t = some u) : u.carets = t.carets := by
  unfold nextT at h
  split at h
  · simp at h
  · exact rotAt_carets _ h
theorem nextT_nil {t : Tr} (h : t.spots false ⟨#[]⟩ = []) : nextT t = none := by unfold nextT; rw [h]
theorem nextT_cons {t : Tr} {a : ByteArray} {as1 : List ByteArray} (h : t.spots false ⟨#[]⟩ = a :: as1) : ∃ u, t.rotAt false a.data.toList = some u ∧ nextT t = some u := by
  obtain ⟨u, hu⟩ := spots_mem0 (k := false) (t := t) (a := a) (by rw [h]; simp)
  exact ⟨u, hu, by unfold nextT; rw [h]; exact hu⟩

def chainF : Nat → Tr → List Tr
  | 0, t => [t]
  | k + 1, t => match nextT t with
    | none => [t]
    | some u => t :: chainF k u
def chainT (t : Tr) : List Tr := chainF t.lw t
theorem chainF_eq (k : Nat) : ∀ (j : Nat) (t : Tr), t.lw ≤ k → t.lw ≤ j → chainF k t = chainF j t := by
  induction k with
  | zero =>
    intro j t h h2
    cases j with
    | zero => rfl
    | succ j =>
      rw [chainF, chainF]
      cases g : nextT t with
      | none => rfl
      | some u => have := nextT_lw g; omega
  | succ k ih =>
    intro j t h h2
    cases j with
    | zero =>
      rw [chainF, chainF]
      cases g : nextT t with
      | none => rfl
      | some u => have := nextT_lw g; omega
    | succ j =>
      rw [chainF, chainF]
      cases g : nextT t with
      | none => rfl
      | some u => have := nextT_lw g; simp only; rw [ih j u (by omega) (by omega)]
theorem chainT_none {t : Tr} (h : nextT t = none) : chainT t = [t] := by
  unfold chainT
  cases g : t.lw with
  | zero => rfl
  | succ k => rw [chainF, h]
theorem chainT_some {t u : Tr} (h : nextT t = some u) : chainT t = t :: chainT u := by
  have := nextT_lw h
  unfold chainT
  obtain ⟨k, hk⟩ : ∃ k, t.lw = k + 1 := ⟨t.lw - 1, by omega⟩
  rw [hk, chainF, h]
  simp only
  rw [chainF_eq k u.lw u (by omega) (by omega)]
theorem chainF_len (k : Nat) : ∀ t, (chainF k t).length ≤ k + 1 ∧ 1 ≤ (chainF k t).length := by
  induction k with
  | zero => intro t; simp [chainF]
  | succ k ih =>
    intro t
    rw [chainF]
    split
    · simp
    · next u _ => have := ih u; simp; omega
theorem chainT_len (t : Tr) : (chainT t).length ≤ t.carets * t.carets + 1 ∧ 1 ≤ (chainT t).length := by
  have := chainF_len t.lw t
  have := lw_le t
  unfold chainT; omega
theorem chainF_carets (k : Nat) : ∀ t, ∀ u ∈ chainF k t, u.carets = t.carets := by
  induction k with
  | zero => intro t u h; simp [chainF] at h; rw [h]
  | succ k ih =>
    intro t u h
    rw [chainF] at h
    split at h
    · simp at h; rw [h]
    · next x g =>
      simp at h
      rcases h with h | h
      · rw [h]
      · rw [ih x u h, nextT_carets g]
theorem chainT_carets {t u : Tr} (h : u ∈ chainT t) : u.carets = t.carets := chainF_carets _ _ _ h
end Go.Proofs.Ytkoebmdocenlkaa
