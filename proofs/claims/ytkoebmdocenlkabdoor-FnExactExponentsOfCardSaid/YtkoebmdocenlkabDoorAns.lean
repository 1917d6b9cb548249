/- Answers of chapter 1's functions as plain functions; readTrees, withinLimit. -/
import Derived.Test.YtkoebmdocenlkabDoorRead
import Derived.Test.YtkoebmdocenlkabDoorSpecMir
namespace Go.Proofs.YtkoebmdocenlkabDoor
open Go.RowKit

def trS : Option Tr → ByteArray
  | some t => t.str
  | none => ⟨#[]⟩
def trB : Option Tr → Bool
  | some _ => true
  | none => false
/-- An answer of a text and a bool. -/
def ansV (o : Option Tr) : Value := .tuple #[.string (trS o), .bool (trB o)]
/-- A tree, if it has no more carets than allowed. -/
def lim (t : Tr) : Option Tr := if t.carets ≤ 8 then some t else none

theorem trIs_yes (t : Tr) (w : World) (h : t.carets ≤ 8) : Calls Tryd.prog 26 #[.string t.str] w fun e w' => e = .returned (.bool true) ∧ w = w' := by
  have := trIs_any t.str w (by have := t.str_size; omega)
  rwa [isTreeB_str t h] at this
theorem trIs_no (s : ByteArray) (w : World) (hs : s.size ≤ 9223372036854775806) (h : treeOf s = none) : Calls Tryd.prog 26 #[.string s] w fun e w' => e = .returned (.bool false) ∧ w = w' := by
  have := trIs_any s w hs
  rwa [isTreeB_eq, h] at this
theorem carets_str (t : Tr) (w : World) (h : t.carets ≤ 1000) : Calls Tryd.prog 32 #[.string t.str] w fun e w' => e = .returned (.int .i64 t.carets) ∧ w = w' := by
  have := carets_any t.str w (by have := t.str_size; omega)
  rwa [cnt_str] at this

theorem limit_yes (t : Tr) (w : World) (h : t.carets ≤ 8) : Calls Tryd.prog 70 #[.string t.str] w fun e w' => e = .returned (.tuple #[.string t.str, .bool true]) ∧ w = w' := by
  have hz := t.str_size
  have hz' : t.str.size ≤ 25 := by omega
  clear hz
  go_enter Tryd.func70, Tryd.ntmps70
  go_wp2_with fail
  go_ret2
  exact ⟨rfl, rfl⟩
theorem limit_no (t : Tr) (w : World) (h : 8 < t.carets) : Calls Tryd.prog 70 #[.string t.str] w fun e w' => e = .returned (.tuple #[.string ⟨#[]⟩, .bool false]) ∧ w = w' := by
  have hz := t.str_size
  have hz' : 25 < t.str.size := by omega
  clear hz
  go_enter Tryd.func70, Tryd.ntmps70
  go_wp2_with fail
  go_ret2
  exact ⟨rfl, rfl⟩
theorem limit_any (t : Tr) (w : World) : Calls Tryd.prog 70 #[.string t.str] w fun e w' => e = .returned (ansV (lim t)) ∧ w = w' := by
  by_cases h : t.carets ≤ 8
  · have := limit_yes t w h
    rw [show ansV (lim t) = .tuple #[.string t.str, .bool true] by simp [lim, h, ansV, trS, trB]]
    exact this
  · have := limit_no t w (by omega)
    rw [show ansV (lim t) = .tuple #[.string ⟨#[]⟩, .bool false] by simp [lim, h, ansV, trS, trB]]
    exact this

def TreesOk (t u : Tr) (w : World) (e : Ending) (w' : World) : Prop :=
  ∃ b c : Nat, NodeAt w' t b ∧ NodeAt w' u c ∧ Below w.heap.size w w' ∧ e = .returned (.tuple #[.pointer (some ⟨b, 0, none⟩), .pointer (some ⟨c, 0, none⟩), .bool true])
def TreesNo (w : World) (e : Ending) (w' : World) : Prop :=
  Below w.heap.size w w' ∧ e = .returned (.tuple #[.pointer none, .pointer none, .bool false])

end Go.Proofs.YtkoebmdocenlkabDoor
