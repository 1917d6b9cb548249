/- Walks: impl.leafPlace, spec.trGraft. -/
import Derived.Test.YtkoebmdocenlkabText
import Derived.Test.YtkoebmdocenlkabDots
namespace Go.Proofs.Ytkoebmdocenlkab
open Go.RowKit

theorem posFrom_dot {s : ByteArray} {k : Nat} {off : Nat} {n : Int} (h : k < s.size) (hb : (((s[k]'h).toNat : Int) == 46) = true) :
    posFrom (s.data.toList.drop k) off n = if n = 0 then (off : Int) else posFrom (s.data.toList.drop (k + 1)) (off + 1) (n - 1) := by
  obtain ⟨c, r, hd, hc, hr⟩ := drop_of_byteAt h
  have h1 : byteAt s k = (s[k]'h).toNat := byteAt_eq s k h
  have : c = 46 := u8_eq (n := 46) (by omega) (by rw [← hc, h1]; simpa using hb)
  rw [hd, posFrom, if_pos this, hr]
theorem posFrom_other {s : ByteArray} {k : Nat} {off : Nat} {n : Int} (h : k < s.size) (hb : (((s[k]'h).toNat : Int) == 46) = false) :
    posFrom (s.data.toList.drop k) off n = posFrom (s.data.toList.drop (k + 1)) (off + 1) n := by
  obtain ⟨c, r, hd, hc, hr⟩ := drop_of_byteAt h
  have h1 : byteAt s k = (s[k]'h).toNat := byteAt_eq s k h
  have : ¬ c = 46 := fun e => by
    have : (((s[k]'h).toNat : Int)) = 46 := by rw [← h1, hc, e]; rfl
    simp [this] at hb
  rw [hd, posFrom, if_neg this, hr]
theorem posFrom_end {s : ByteArray} {off : Nat} {n : Int} : posFrom (s.data.toList.drop s.size) off n = -1 := by
  rw [List.drop_of_length_le (by rw [Lib.size_eq]; exact Nat.le_refl _)]; rfl

end Go.Proofs.Ytkoebmdocenlkab
