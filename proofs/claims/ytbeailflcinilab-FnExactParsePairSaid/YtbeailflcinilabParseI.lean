/- Walks: strings.Cut at one byte; spec.l1Split; ParsePair of both sides. -/
import Derived.Test.YtbeailflcinilabIsPair
import Derived.Test.YtbeailflcinilabRowS
import Derived.Lib.Bytealg
namespace Go.Proofs.Ytbeailflcinilab
open Go.RowKit

/-- The index of the first byte c from an index on. -/
def idxB (s : ByteArray) (c : UInt8) : Int := Lib.indexByte s.data.toList c

set_option maxRecDepth 100000 in
set_option maxHeartbeats 1000000 in
theorem indexByteS_any (s : ByteArray) (c : UInt8) (w : World) :
    Calls Try.prog 145 #[.string s, .int .u8 c.toNat] w fun e w' => e = .returned (.int .i64 (idxB s c)) ∧ w = w' := by
  go_enter Try.func145, Try.ntmps145
  go_wp2
  rw [run_callFunc_extern Try.func150 (by kernel_rfl) (by kernel_rfl) (by kernel_rfl) (e := Extern.BytealgIndexByte.indexByte) (by kernel_rfl), Lib.run_indexByteString]
  simp only [Result.andThen]
  rw [Oper.upon_value]
  go_wp2
  go_ret
  refine ⟨ret_int ?_, rfl⟩
  unfold idxB
  simp

set_option maxRecDepth 100000 in
set_option maxHeartbeats 1000000 in
theorem index62_any (s : ByteArray) (w : World) :
    Calls Try.prog 138 #[.string s, .string ⟨#[62]⟩] w fun e w' => e = .returned (.int .i64 (idxB s 62)) ∧ w = w' := by
  have hI := fun w => indexByteS_any s 62 w
  have gz : ((⟨#[62]⟩ : ByteArray)[0]'(by decide)).toNat = 62 := rfl
  have ez : ((62 : UInt8).toNat : Int) = 62 := rfl
  rw [ez] at hI
  cases hq : ([62] == s.toList) with
  | true =>
    have h0 : idxB s 62 = 0 := by
      unfold idxB
      rw [← Lib.toList_data, ← (beq_iff_eq.1 hq)]
      rfl
    rw [h0]
    clear hI h0 ez
    go_enter Try.func138, Try.ntmps138
    go_wp2_with fail
    go_ret
    exact ⟨rfl, rfl⟩
  | false =>
    generalize idxB s 62 = z at *
    clear ez
    go_enter Try.func138, Try.ntmps138
    go_wp2_with fail
    refine (hI _).mono ?_; rintro e w1 ⟨rfl, rfl⟩
    go_wp2_with fail
    go_ret
    exact ⟨rfl, rfl⟩

theorem idx_spec (l : List UInt8) (c : UInt8) : (Lib.indexByte l c = -1 ∧ ∀ j : Nat, l[j]? ≠ some c) ∨ ∃ k : Nat, Lib.indexByte l c = k ∧ k < l.length ∧ l[k]? = some c ∧ ∀ j, j < k → l[j]? ≠ some c := by
  induction l with
  | nil => exact .inl ⟨rfl, fun j => by simp⟩
  | cons a l ih =>
    unfold Lib.indexByte
    by_cases h : (a == c) = true
    · rw [if_pos h]
      have : a = c := by simpa using h
      exact .inr ⟨0, rfl, by simp, by simp [this], fun j hj => by omega⟩
    · rw [if_neg h]
      have hne : a ≠ c := by simpa using h
      rcases ih with ⟨h1, h2⟩ | ⟨k, h1, h2, h3, h4⟩
      · left
        refine ⟨by rw [h1]; rfl, fun j => ?_⟩
        cases j with
        | zero => simpa using hne
        | succ j => simpa using h2 j
      · right
        refine ⟨k + 1, ?_, by simp; omega, by simpa using h3, fun j hj => ?_⟩
        · rw [h1]
          have : (((k : Nat) : Int) == -1) = false := by rw [beq_eq_false_iff_ne]; omega
          rw [this]
          simp
        · cases j with
          | zero => simpa using hne
          | succ j => simpa using h4 j (by omega)
theorem idxB_spec (s : ByteArray) (c : UInt8) : (idxB s c = -1 ∧ ∀ j : Nat, s.data.toList[j]? ≠ some c) ∨ ∃ k : Nat, idxB s c = k ∧ k < s.size ∧ s.data.toList[k]? = some c ∧ ∀ j, j < k → s.data.toList[j]? ≠ some c := by
  have := idx_spec s.data.toList c
  rw [← Lib.size_eq] at this
  exact this

def CutV (s : ByteArray) : Value := if 0 ≤ idxB s 62 then .tuple #[.string (s.extract 0 (idxB s 62).toNat), .string (s.extract ((idxB s 62).toNat + 1) s.size), .bool true] else .tuple #[.string s, .string ⟨#[]⟩, .bool false]

set_option maxRecDepth 100000 in
set_option maxHeartbeats 1000000 in
theorem cutS_any (s : ByteArray) (w : World) (hs : s.size ≤ 9223372036854775806) :
    Calls Try.prog 129 #[.string s, .string ⟨#[62]⟩] w (Gives (CutV s) w) := by
  have hI := fun w => index62_any s w
  unfold CutV
  rcases idxB_spec s 62 with ⟨h1, _⟩ | ⟨k, h1, h2, _, _⟩
  · rw [h1] at hI
    rw [h1, if_neg (by decide)]
    clear h1
    go_enter Try.func129, Try.ntmps129
    go_wp2_with fail
    refine (hI _).mono ?_; rintro e w1 ⟨rfl, rfl⟩
    go_wp2_with fail
    go_ret3
    exact ⟨rfl, Below.refl _ _⟩
  · rw [h1] at hI
    rw [h1, if_pos (by omega)]
    have hk : (k : Int) ≤ (s.size : Int) := by omega
    have hk1 : (k : Int) + 1 ≤ (s.size : Int) := by omega
    have et : ((k : Int)).toNat = k := by omega
    rw [et]
    have e1 : IntKind.i64.wrap ((k : Int) + 1) = (k : Int) + 1 := by rw [IntKind.wrap_i64]; omega
    have e2 : ((k : Int) + 1).toNat = k + 1 := by omega
    have e3 : (0 : Int) ≤ (k : Int) + 1 := by omega
    clear h1 et
    go_enter Try.func129, Try.ntmps129
    go_wp2_with fail
    refine (hI _).mono ?_; rintro e w1 ⟨rfl, rfl⟩
    go_wp2_with fail
    go_quiet (fail)
    go_wp2_with fail
    go_ret3
    exact ⟨rfl, drewB (Below.refl _ _) _⟩

theorem strings_cut (s : ByteArray) (w : World) (hs : s.size ≤ 9223372036854775806) : Calls Try.prog 84 #[.string s, .string ⟨#[62]⟩] w (Gives (CutV s) w) := by
  have hC := fun w => cutS_any s w hs
  unfold CutV at hC ⊢
  rcases idxB_spec s 62 with ⟨h1, _⟩ | ⟨k, h1, _, _, _⟩
  · simp only [h1, if_neg (show ¬ (0:Int) ≤ -1 by decide)] at hC ⊢
    clear h1
    go_enter Try.func84, Try.ntmps84
    go_wp2_with fail
    refine (hC _).mono ?_; rintro e w1 ⟨rfl, hb1⟩
    go_wp2_with fail
    go_ret3
    exact ⟨rfl, hb1⟩
  · simp only [h1, if_pos (show (0:Int) ≤ (k:Int) by omega)] at hC ⊢
    clear h1
    generalize s.extract 0 ((k : Int)).toNat = X at *
    generalize s.extract (((k : Int)).toNat + 1) s.size = Y at *
    go_enter Try.func84, Try.ntmps84
    go_wp2_with fail
    refine (hC _).mono ?_; rintro e w1 ⟨rfl, hb1⟩
    go_wp2_with fail
    go_ret3
    exact ⟨rfl, hb1⟩

/-- The pieces of a text between the bytes 62, from an index on (fuel: what is left). -/
def pcs (s : ByteArray) : Nat → Nat → Nat → List ByteArray
  | 0, a, _ => [s.extract a s.size]
  | k + 1, a, i => if s.data.toList[i]? = some 62 then s.extract a i :: pcs s k (i + 1) (i + 1) else pcs s k a (i + 1)

theorem oneS1 (m : ByteArray) : ∀ u ∈ [Value.string m], u.oneCell' = true := by intro u hu; simp at hu; subst hu; rfl
theorem OwnS.snoc {base : Nat} {w : World} {v : Value} {xs : List ByteArray} {m : ByteArray} (h : w.ownsRow base 9 1 v (xs.length + 1) (xs.map Value.string ++ [Value.string m])) : OwnS base w v (xs ++ [m]) := by
  unfold OwnS; rw [List.length_append, List.map_append]; exact h

set_option maxRecDepth 100000 in
set_option maxHeartbeats 2000000 in
theorem split_any (s : ByteArray) (w : World) (hs : s.size ≤ 2000000) :
    Calls Try.prog 127 #[.string s, .int .u8 62] w fun e w' => ∃ v, OwnS w.heap.size w' v (pcs s s.size 0 0) ∧ Below w.heap.size w w' ∧ e = .returned v := by
  obtain ⟨i0, hi, hz0, hz1, hz2⟩ := info_parts info_str
  go_enter Try.func127, Try.ntmps127
  go_wp2_with fail
  go_loopw [5, 6, 7] (fun v f i wr => ∃ (a k : Nat) (xs : List ByteArray), f = .int .i64 a ∧ i = .int .i64 k ∧ a ≤ k ∧ k ≤ s.size ∧ xs.length ≤ k ∧ OwnS w.heap.size wr v xs ∧ Below w.heap.size w wr ∧ Hid (pcs s s.size 0 0 = xs ++ pcs s (s.size - k) a k)) (fun _ _ i _ => s.size - (intOf i).toNat)
  case atStart => exact ⟨0, 0, [], rfl, rfl, Nat.le_refl _, Nat.zero_le _, Nat.le_refl _, OwnS.nil _ _, Below.refl _ _, by show _ = _; rfl⟩
  case round =>
    obtain ⟨a, k, xs, rfl, rfl, hak, hk, hxl, hown, hbw, he⟩ := hrel
    by_cases hlt : k < s.size
    · have hlt' : (k : Int) < (s.size : Int) := by omega
      have hsk : s.data.toList[k]? = some (s[k]'hlt) := by
        have hl : k < s.data.toList.length := by rw [← Lib.size_eq]; exact hlt
        rw [List.getElem?_eq_getElem hl]; rfl
      have hu : (s[k]'hlt = 62) ↔ (((s[k]'hlt).toNat : Int) == 62) = true := by
        rw [beq_iff_eq]
        exact ⟨fun e => by rw [e]; rfl, fun e => u8_eq (n := 62) (by omega) e⟩
      have hf : s.size - k = (s.size - (k + 1)) + 1 := by omega
      have he0 := he.out
      rw [hf, pcs, hsk] at he0
      cases hb : (((s[k]'hlt).toNat : Int) == 62) with
      | true =>
        rw [if_pos (by rw [hu.2 hb])] at he0
        have he' : pcs s s.size 0 0 = (xs ++ [s.extract a k]) ++ pcs s (s.size - (k + 1)) (k + 1) (k + 1) := by rw [he0]; simp
        have HE := Lib.hid he'
        have hA : (a : Int) ≤ (k : Int) := by omega
        clear he0 he' hu hsk hf he
        go_wp2_with (at_builtin; refine wpList_append_own _ rfl _ _ 43 rfl w.heap.size 9 i0 (.string ⟨#[]⟩) 1 16 Try.underlying43 hi hz0 hz1 hz2 rfl (by decide) _ _ _ rfl (hown.alloc _) ⟨wr.heap.size, 0, none⟩ 1 1 [.string (s.extract a k)] rfl rfl (new1 _ _ _) (oneS1 _) (by unfold maxLen; omega) (by omega) (size_al hbw _) ?_; intro v' w1 hown' hgrow hnn)
        have hbw' := below_app hbw hown (Nat.le_refl _) hgrow
        have hown1 := OwnS.snoc hown'
        clear hown hown' hgrow hbw hnn
        go_wp2_with fail
        go_roundw
        case rel => exact ⟨k + 1, k + 1, xs ++ [s.extract a k], by go_num, by go_num, Nat.le_refl _, by omega, by simp; omega, hown1, hbw', HE⟩
        case measure => simp [intOf]; omega
      | false =>
        rw [if_neg (by intro e; rw [hu.1 (by injection e)] at hb; cases hb)] at he0
        have HE := Lib.hid he0
        clear he0 hu hsk hf he
        go_wp2_with fail
        go_roundw
        case rel => exact ⟨a, k + 1, xs, rfl, by go_num, by omega, by omega, by omega, hown, hbw, HE⟩
        case measure => simp [intOf]; omega
    · obtain rfl : k = s.size := by omega
      have he0 := he.out
      rw [Nat.sub_self, pcs] at he0
      have HE := Lib.hid he0
      have hA : (a : Int) ≤ (s.size : Int) := by omega
      clear he0 he
      go_wp2_with (at_builtin; refine wpList_append_own _ rfl _ _ 43 rfl w.heap.size 9 i0 (.string ⟨#[]⟩) 1 16 Try.underlying43 hi hz0 hz1 hz2 rfl (by decide) _ _ _ rfl (hown.alloc _) ⟨wr.heap.size, 0, none⟩ 1 1 [.string (s.extract a s.size)] rfl rfl (new1 _ _ _) (oneS1 _) (by unfold maxLen; omega) (by omega) (size_al hbw _) ?_; intro v' w1 hown' hgrow hnn)
      have hbw' := below_app hbw hown (Nat.le_refl _) hgrow
      have hown1 := OwnS.snoc hown'
      clear hown hown' hgrow hbw hnn
      go_wp2_with fail
      go_ret
      exact ⟨_, by rw [HE.out]; exact hown1, hbw', rfl⟩
end Go.Proofs.Ytbeailflcinilab
