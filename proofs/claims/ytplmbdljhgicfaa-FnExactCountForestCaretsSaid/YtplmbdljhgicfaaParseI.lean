/- Walks: strings.Cut at one byte; spec.l1Split; ParsePair of both sides. -/
import Derived.Test.YtplmbdljhgicfaaIsPair
import Derived.Test.YtplmbdljhgicfaaRowS
import Derived.Lib.Bytealg
namespace Go.Proofs.Ytplmbdljhgicfaa
open Go.RowKit

/-- The index of the first byte c from an index on. -/
def idxB (s : ByteArray) (c : UInt8) : Int := Lib.indexByte s.data.toList c

set_option maxRecDepth 100000 in
set_option maxHeartbeats 1000000 in
theorem indexByteS_any (s : ByteArray) (c : UInt8) (w : World) :
    Calls Try.prog 137 #[.string s, .int .u8 c.toNat] w fun e w' => e = .returned (.int .i64 (idxB s c)) ∧ w = w' := by
  go_enter Try.func137, Try.ntmps137
  go_wp2
  rw [run_callFunc_extern Try.func141 (by kernel_rfl) (by kernel_rfl) (by kernel_rfl) (e := Extern.BytealgIndexByte.indexByte) (by kernel_rfl), Lib.run_indexByteString]
  simp only [Result.andThen]
  rw [Oper.upon_value]
  go_wp2
  go_ret
  refine ⟨ret_int ?_, rfl⟩
  unfold idxB
  simp

set_option maxRecDepth 100000 in
set_option maxHeartbeats 1000000 in
theorem index62_any (s : ByteArray) (w : World) :
    Calls Try.prog 133 #[.string s, .string ⟨#[62]⟩] w fun e w' => e = .returned (.int .i64 (idxB s 62)) ∧ w = w' := by
  have hI := fun w => indexByteS_any s 62 w
  have gz : ((⟨#[62]⟩ : ByteArray)[0]'(by decide)).toNat = 62 := rfl
  have ez : ((62 : UInt8).toNat : Int) = 62 := rfl
  rw [ez] at hI
  cases hq : ([62] == s.toList) with
  | true =>
    have h0 : idxB s 62 = 0 := by
      unfold idxB
      rw [← Lib.toList_data, ← (beq_iff_eq.1 hq)]
      rfl
    rw [h0]
    clear hI h0 ez
    go_enter Try.func133, Try.ntmps133
    go_wp2_with fail
    go_ret
    exact ⟨rfl, rfl⟩
  | false =>
    generalize idxB s 62 = z at *
    clear ez
    go_enter Try.func133, Try.ntmps133
    go_wp2_with fail
    refine (hI _).mono ?_; rintro e w1 ⟨rfl, rfl⟩
    go_wp2_with fail
    go_ret
    exact ⟨rfl, rfl⟩

theorem idx_spec (l : List UInt8) (c : UInt8) : (Lib.indexByte l c = -1 ∧ ∀ j : Nat, l[j]? ≠ some c) ∨ ∃ k : Nat, Lib.indexByte l c = k ∧ k < l.length ∧ l[k]? = some c ∧ ∀ j, j < k → l[j]? ≠ some c := by
  induction l with
  | nil => exact .inl ⟨rfl, fun j => by simp⟩
  | cons a l ih =>
    unfold Lib.indexByte
    by_cases h : (a == c) = true
    · rw [if_pos h]
      have : a = c := by simpa using h
      exact .inr ⟨0, rfl, by simp, by simp [this], fun j hj => by omega⟩
    · rw [if_neg h]
      have hne : a ≠ c := by simpa using h
      rcases ih with ⟨h1, h2⟩ | ⟨k, h1, h2, h3, h4⟩
      · left
        refine ⟨by rw [h1]; rfl, fun j => ?_⟩
        cases j with
        | zero => simpa using hne
        | succ j => simpa using h2 j
      · right
        refine ⟨k + 1, ?_, by simp; omega, by simpa using h3, fun j hj => ?_⟩
        · rw [h1]
          have : (((k : Nat) : Int) == -1) = false := by rw [beq_eq_false_iff_ne]; omega
          rw [this]
          simp
        · cases j with
          | zero => simpa using hne
          | succ j => simpa using h4 j (by omega)
theorem idxB_spec (s : ByteArray) (c : UInt8) : (idxB s c = -1 ∧ ∀ j : Nat, s.data.toList[j]? ≠ some c) ∨ ∃ k : Nat, idxB s c = k ∧ k < s.size ∧ s.data.toList[k]? = some c ∧ ∀ j, j < k → s.data.toList[j]? ≠ some c := by
  have := idx_spec s.data.toList c
  rw [← Lib.size_eq] at this
  exact this

def CutV (s : ByteArray) : Value := if 0 ≤ idxB s 62 then .tuple #[.string (s.extract 0 (idxB s 62).toNat), .string (s.extract ((idxB s 62).toNat + 1) s.size), .bool true] else .tuple #[.string s, .string ⟨#[]⟩, .bool false]

/-- The pieces of a text between the bytes 62, from an index on (fuel: what is left). -/
def pcs (s : ByteArray) : Nat → Nat → Nat → List ByteArray
  | 0, a, _ => [s.extract a s.size]
  | k + 1, a, i => if s.data.toList[i]? = some 62 then s.extract a i :: pcs s k (i + 1) (i + 1) else pcs s k a (i + 1)

theorem oneS1 (m : ByteArray) : ∀ u ∈ [Value.string m], u.oneCell' = true := by intro u hu; simp at hu; subst hu; rfl
theorem OwnS.snoc {base : Nat} {w : World} {v : Value} {xs : List ByteArray} {m : ByteArray} (h : w.ownsRow base 9 1 v (xs.length + 1) (xs.map Value.string ++ [Value.string m])) : OwnS base w v (xs ++ [m]) := by
  unfold OwnS; rw [List.length_append, List.map_append]; exact h

end Go.Proofs.Ytplmbdljhgicfaa
