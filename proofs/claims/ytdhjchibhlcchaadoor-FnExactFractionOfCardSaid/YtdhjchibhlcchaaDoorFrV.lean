/- Values of fractions under pairs, slopes, breaks. No program is named here. -/
import Derived.Test.YtdhjchibhlcchaaDoorFrQ
import Derived.Test.YtdhjchibhlcchaaDoorPrP
namespace Go.Proofs.YtdhjchibhlcchaaDoor

theorem data_size (a : ByteArray) : a.data.toList.length = a.size := rfl
theorem data_append (a b : ByteArray) : (a ++ b).data.toList = a.data.toList ++ b.data.toList := by simp
/-- All addresses are of letters 0 and 1. -/
theorem addrs_bits (t : Tr) : ∀ here : ByteArray, here.data.toList.all isBit = true → ∀ s ∈ t.addrs here, s.data.toList.all isBit = true := by
  induction t with
  | lf => intro here h s hs; simp [Tr.addrs] at hs; subst hs; exact h
  | nd l r ihl ihr =>
    intro here h s hs
    rw [Tr.addrs, List.mem_append] at hs
    rcases hs with hs | hs
    · exact ihl _ (by rw [data_append, List.all_append, h]; rfl) s hs
    · exact ihr _ (by rw [data_append, List.all_append, h]; rfl) s hs
theorem addrs_ne (t : Tr) (here : ByteArray) : t.addrs here ≠ [] := by
  intro h
  have := addrs_length t here
  rw [h] at this
  simp at this
/-- The first leaf begins where the tree does. -/
theorem addrs_first (t : Tr) : ∀ here : ByteArray, numA here.data.toList = 0 → ∃ s l, t.addrs here = s :: l ∧ numA s.data.toList = 0 := by
  induction t with
  | lf => intro here h; exact ⟨here, [], rfl, h⟩
  | nd l r ihl ihr =>
    intro here h
    obtain ⟨s, k, e, hs⟩ := ihl (here ++ ⟨#[48]⟩) (by rw [data_append]; show numA (here.data.toList ++ [48]) = 0; rw [numA_snoc, h]; rfl)
    exact ⟨s, k ++ r.addrs (here ++ ⟨#[49]⟩), by rw [Tr.addrs, e]; rfl, hs⟩
theorem starts_first (t : Tr) : t.starts.getD 0 0 = 0 := by
  obtain ⟨s, l, e, h⟩ := addrs_first t ⟨#[]⟩ rfl
  unfold Tr.starts
  rw [e]
  show stA s = 0
  unfold stA; rw [h]; simp
theorem starts_at (t : Tr) {k : Nat} (h : k < t.carets + 1) : t.starts.getD k 0 = stA ((t.addrs ⟨#[]⟩).getD k ⟨#[]⟩) := by
  have hl := addrs_length t ⟨#[]⟩
  have : k < (t.addrs ⟨#[]⟩).length := by omega
  simp [Tr.starts, this]
/-- An address of a tree of at most eight carets. -/
theorem addr_facts (t : Tr) (hc : t.carets ≤ 8) {k : Nat} (h : k < t.carets + 1) :
    ∃ a, a = (t.addrs ⟨#[]⟩).getD k ⟨#[]⟩ ∧ a.size ≤ 8 ∧ a.data.toList.all isBit = true := by
  have hl := addrs_length t ⟨#[]⟩
  have hk : k < (t.addrs ⟨#[]⟩).length := by omega
  have hm : (t.addrs ⟨#[]⟩).getD k ⟨#[]⟩ ∈ t.addrs ⟨#[]⟩ := by simp [hk]
  refine ⟨_, rfl, ?_, addrs_bits t _ rfl _ hm⟩
  have := addrs_size t ⟨#[]⟩ _ hm
  have e : (⟨#[]⟩ : ByteArray).size = 0 := rfl
  omega
theorem lastTo_le : ∀ (l : List Nat) (s : Nat), l.getD 0 0 = 0 → l.getD (lastTo l s) 0 ≤ s := by
  intro l s h
  have : ∀ (n : Nat), n ≤ l.length → l.getD (lastTo (l.take n) s) 0 ≤ s := by
    intro n
    induction n with
    | zero => intro _; simp only [List.take_zero, lastTo_zero]; omega
    | succ n ih =>
      intro hn
      rw [lastTo_take (by omega)]
      split
      · assumption
      · exact ih (by omega)
  have := this l.length (Nat.le_refl _)
  rwa [List.take_length] at this

/-- The value of a number of steps on a leaf: its start, that of its image, and their lengths. -/
def valN (sa la sb lb s : Nat) : Nat := sb + (s - sa) * 2 ^ la / 2 ^ lb
theorem valN_exact {sa la sb lb s : Nat} (hs : s % 1024 = 0) (ha : sa % 1024 = 0) (hb : lb ≤ 10) : valN sa la sb lb s * 2 ^ lb = sb * 2 ^ lb + (s - sa) * 2 ^ la := by
  unfold valN
  rw [Nat.add_mul]
  congr 1
  apply Nat.div_mul_cancel
  have h1 : 2 ^ lb ∣ 1024 := by
    rw [show 1024 = 2 ^ 10 by rfl]
    exact Nat.pow_dvd_pow 2 hb
  have h2 : 1024 ∣ s - sa := by omega
  exact Nat.dvd_trans (Nat.dvd_trans h1 h2) (Nat.dvd_mul_right _ _)
theorem pow_split {a b : Nat} (h : a ≤ b) : (2 : Nat) ^ b = 2 ^ (b - a) * 2 ^ a := by rw [← Nat.pow_add]; congr 1; omega
theorem valN_up {sa la sb lb s : Nat} (h : lb ≤ la) : valN sa la sb lb s = sb + (s - sa) * 2 ^ (la - lb) := by
  unfold valN
  rw [pow_split h, ← Nat.mul_assoc, Nat.mul_div_cancel _ (Nat.pow_pos (by omega))]
theorem valN_down {sa la sb lb s : Nat} (h : la ≤ lb) : valN sa la sb lb s = sb + (s - sa) / 2 ^ (lb - la) := by
  unfold valN
  rw [pow_split h, Nat.mul_div_mul_right _ _ (Nat.pow_pos (by omega))]
theorem value_cross {W n d na da nb db la lb s sa sb v : Nat} (h : n * W = s * d) (ha : na * W = sa * da) (hb : nb * W = sb * db) (hv : v * 2 ^ lb = sb * 2 ^ lb + (s - sa) * 2 ^ la) :
    ((n * da - na * d) * 2 ^ la * db + nb * (d * da * 2 ^ lb)) * W = v * (d * da * 2 ^ lb * db) := by
  have e1 : (n * da - na * d) * W = (s - sa) * (d * da) := by
    rw [Nat.sub_mul, Nat.sub_mul]
    congr 1
    · calc n * da * W = (n * W) * da := by ac_rfl
        _ = s * (d * da) := by rw [h]; ac_rfl
    · calc na * d * W = (na * W) * d := by ac_rfl
        _ = sa * (d * da) := by rw [ha]; ac_rfl
  calc ((n * da - na * d) * 2 ^ la * db + nb * (d * da * 2 ^ lb)) * W
      = ((n * da - na * d) * W) * (2 ^ la * db) + (nb * W) * (d * da * 2 ^ lb) := by rw [Nat.add_mul]; congr 1 <;> ac_rfl
    _ = (s - sa) * (d * da) * (2 ^ la * db) + sb * db * (d * da * 2 ^ lb) := by rw [e1, hb]
    _ = (sb * 2 ^ lb + (s - sa) * 2 ^ la) * (d * da * db) := by rw [Nat.add_mul, Nat.add_comm]; congr 1 <;> ac_rfl
    _ = v * 2 ^ lb * (d * da * db) := by rw [hv]
    _ = v * (d * da * 2 ^ lb * db) := by ac_rfl
theorem short_steps {W n d : Nat} (hd : 0 < d) (hp : d ∣ W) : (shortN n d).1 * W = (n * (W / d)) * (shortN n d).2 := by
  obtain ⟨q, hq⟩ := hp
  have g0 : 0 < Nat.gcd n d := Nat.gcd_pos_of_pos_right _ hd
  obtain ⟨a, ha⟩ := Nat.gcd_dvd_left n d
  obtain ⟨b, hb⟩ := Nat.gcd_dvd_right n d
  have e : W / d = q := by rw [hq, Nat.mul_div_cancel_left _ hd]
  rw [e, hq]
  unfold shortN
  show n / Nat.gcd n d * (d * q) = n * q * (d / Nat.gcd n d)
  have e1 : n / Nat.gcd n d = a := Nat.div_eq_of_eq_mul_right g0 ha
  have e2 : d / Nat.gcd n d = b := Nat.div_eq_of_eq_mul_right g0 hb
  rw [e1, e2]
  generalize Nat.gcd n d = g at *
  rw [ha, hb]
  ac_rfl
theorem stA_cross {a : ByteArray} (h : a.size ≤ 20) : (shortN (numA a.data.toList) (2 ^ a.size)).1 * 1048576 = stA a * (shortN (numA a.data.toList) (2 ^ a.size)).2 := by
  obtain ⟨W, hW⟩ : ∃ W, W = 1048576 := ⟨_, rfl⟩
  have hp : W = 2 ^ (20 - a.size) * 2 ^ a.size := by rw [← Nat.pow_add, show 20 - a.size + a.size = 20 by omega, hW]
  rw [← hW, short_steps (W := W) (Nat.pow_pos (by omega)) ⟨2 ^ (20 - a.size), by rw [hp]; ac_rfl⟩]
  unfold stA
  congr 2
  rw [hp, Nat.mul_div_cancel _ (Nat.pow_pos (by omega))]

/-- Slopes, leaf by leaf, as powers of 2. -/
def slopesL : List ByteArray → List ByteArray → List Int
  | a :: l, b :: m => ((a.size : Int) - b.size) :: slopesL l m
  | _, _ => []
def slopes (p : Pr) : List Int := slopesL (p.1.addrs ⟨#[]⟩) (p.2.addrs ⟨#[]⟩)
theorem slopesL_length : ∀ (l m : List ByteArray), l.length = m.length → (slopesL l m).length = l.length := by
  intro l
  induction l with
  | nil => intro m h; cases m <;> rfl
  | cons a l ih => intro m h; match m, h with
    | b :: m, h => simp [slopesL, ih m (by simpa using h)]
theorem slopesL_get : ∀ (l m : List ByteArray), l.length = m.length → ∀ k, k < l.length → (slopesL l m).getD k 0 = ((l.getD k ⟨#[]⟩).size : Int) - (m.getD k ⟨#[]⟩).size := by
  intro l
  induction l with
  | nil => intro m h k hk; simp at hk
  | cons a l ih => intro m h k hk; match m, h with
    | b :: m, h =>
      match k with
      | 0 => rfl
      | k + 1 => exact ih m (by simpa using h) k (by simpa using hk)
theorem take_succ_getD {α : Type} [Inhabited α] (l : List α) (d : α) {k : Nat} (h : k < l.length) : l.take (k + 1) = l.take k ++ [l.getD k d] := by
  rw [List.take_succ_eq_append_getElem h]; simp [h]
end Go.Proofs.YtdhjchibhlcchaaDoor
