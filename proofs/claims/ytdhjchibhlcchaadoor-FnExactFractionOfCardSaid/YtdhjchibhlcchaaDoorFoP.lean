/- Texts of letters 0 and 1, by trimming. No program is named here. -/
import Derived.Test.YtdhjchibhlcchaaDoorFrQ
import Derived.Lib.SlTrimSet
namespace Go.Proofs.YtdhjchibhlcchaaDoor

theorem drop_keep {α : Type} (p : α → Bool) : ∀ (l : List α) (x : α), x ∈ l → p x = false → x ∈ l.dropWhile p := by
  intro l
  induction l with
  | nil => intro x h _; exact h
  | cons a l ih =>
    intro x h hp
    rw [List.dropWhile_cons]
    split
    · rename_i ha
      rcases List.mem_cons.1 h with e | h
      · subst e; rw [hp] at ha; cases ha
      · exact ih x h hp
    · exact h
theorem drop_all {α : Type} (p : α → Bool) : ∀ (l : List α), (∀ x ∈ l, p x = true) → l.dropWhile p = [] := by
  intro l
  induction l with
  | nil => intro _; rfl
  | cons a l ih =>
    intro h
    rw [List.dropWhile_cons, if_pos (h a (by simp))]
    exact ih fun x hx => h x (by simp [hx])
theorem bits_contains (b : UInt8) : [(48 : UInt8), 49].contains b = isBit b := by
  rw [Bool.eq_iff_iff, isBit_iff]
  simp
theorem trim_empty (l : List UInt8) : Lib.trimS l [48, 49] = [] ↔ l.all isBit = true := by
  have e : (fun x => [(48 : UInt8), 49].contains x) = isBit := by funext x; exact bits_contains x
  unfold Lib.trimS Lib.trimLeftS Lib.trimRightS
  simp only [e]
  rw [List.all_eq_true]
  constructor
  · intro h x hx
    cases hp : isBit x with
    | true => rfl
    | false =>
      have h1 := drop_keep isBit _ x (List.mem_reverse.2 hx) hp
      have h2 := drop_keep isBit _ x (List.mem_reverse.2 h1) hp
      rw [h] at h2
      cases h2
  · intro h
    rw [drop_all isBit l.reverse (fun x hx => h x (List.mem_reverse.1 hx))]
    rfl
/-- The fraction of an address. -/
def fracO (a : ByteArray) : Option (Nat × Nat) := if isAd a = true then some (frOf (stA a)) else none
end Go.Proofs.YtdhjchibhlcchaaDoor
