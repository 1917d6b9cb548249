/- Answers of chapter 1's functions as plain functions; readTrees, withinLimit. -/
import Derived.Test.YtkoebmdocenlkabRead
import Derived.Test.YtkoebmdocenlkabSpecMir
namespace Go.Proofs.Ytkoebmdocenlkab
open Go.RowKit

def trS : Option Tr → ByteArray
  | some t => t.str
  | none => ⟨#[]⟩
def trB : Option Tr → Bool
  | some _ => true
  | none => false
/-- An answer of a text and a bool. -/
def ansV (o : Option Tr) : Value := .tuple #[.string (trS o), .bool (trB o)]
/-- A tree, if it has no more carets than allowed. -/
def lim (t : Tr) : Option Tr := if t.carets ≤ 8 then some t else none

theorem trIs_yes (t : Tr) (w : World) (h : t.carets ≤ 8) : Calls Try.prog 75 #[.string t.str] w fun e w' => e = .returned (.bool true) ∧ w = w' := by
  have := trIs_any t.str w (by have := t.str_size; omega)
  rwa [isTreeB_str t h] at this
theorem trIs_no (s : ByteArray) (w : World) (hs : s.size ≤ 9223372036854775806) (h : treeOf s = none) : Calls Try.prog 75 #[.string s] w fun e w' => e = .returned (.bool false) ∧ w = w' := by
  have := trIs_any s w hs
  rwa [isTreeB_eq, h] at this
theorem carets_str (t : Tr) (w : World) (h : t.carets ≤ 1000) : Calls Try.prog 36 #[.string t.str] w fun e w' => e = .returned (.int .i64 t.carets) ∧ w = w' := by
  have := carets_any t.str w (by have := t.str_size; omega)
  rwa [cnt_str] at this

def TreesOk (t u : Tr) (w : World) (e : Ending) (w' : World) : Prop :=
  ∃ b c : Nat, NodeAt w' t b ∧ NodeAt w' u c ∧ Below w.heap.size w w' ∧ e = .returned (.tuple #[.pointer (some ⟨b, 0, none⟩), .pointer (some ⟨c, 0, none⟩), .bool true])
def TreesNo (w : World) (e : Ending) (w' : World) : Prop :=
  Below w.heap.size w w' ∧ e = .returned (.tuple #[.pointer none, .pointer none, .bool false])

theorem trees_yes (t u : Tr) (w : World) (h : t.carets ≤ 8) (k : u.carets ≤ 8) :
    Calls Try.prog 71 #[.string t.str, .string u.str] w (TreesOk t u w) := by
  go_enter Try.func71, Try.ntmps71
  go_wp2_with fail
  refine (read_yes t _ h).mono ?_; rintro e w1 ⟨b1, hn1, hb1, rfl⟩
  go_wp2_with fail
  refine (read_yes u _ k).mono ?_; rintro e w2 ⟨b2, hn2, hb2, rfl⟩
  go_wp2_with fail
  go_ret3
  exact ⟨b1, b2, hn1.keep hb2, hn2, nx hb1 hb2, rfl⟩

theorem trees_no1 (s u : ByteArray) (w : World) (hs : s.size ≤ 9223372036854775806) (h : treeOf s = none) :
    Calls Try.prog 71 #[.string s, .string u] w (TreesNo w) := by
  have H := Lib.hid h
  clear h
  go_enter Try.func71, Try.ntmps71
  go_wp2_with fail
  refine (read_no s _ hs H.out).mono ?_; rintro e w1 ⟨hb1, rfl⟩
  go_wp2_with fail
  go_ret3
  exact ⟨hb1, rfl⟩

theorem trees_no2 (t : Tr) (s : ByteArray) (w : World) (k : t.carets ≤ 8) (hs : s.size ≤ 9223372036854775806) (h : treeOf s = none) :
    Calls Try.prog 71 #[.string t.str, .string s] w (TreesNo w) := by
  have H := Lib.hid h
  clear h
  go_enter Try.func71, Try.ntmps71
  go_wp2_with fail
  refine (read_yes t _ k).mono ?_; rintro e w1 ⟨b1, hn1, hb1, rfl⟩
  go_wp2_with fail
  refine (read_no s _ hs H.out).mono ?_; rintro e w2 ⟨hb2, rfl⟩
  go_wp2_with fail
  go_ret3
  exact ⟨nx hb1 hb2, rfl⟩
end Go.Proofs.Ytkoebmdocenlkab
