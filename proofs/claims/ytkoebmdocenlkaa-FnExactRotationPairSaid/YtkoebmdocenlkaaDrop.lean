/- Walks: spec.trDrop, DropExposed of both sides. -/
import Derived.Test.YtkoebmdocenlkaaHas
import Derived.Test.YtkoebmdocenlkaaDropP
import Derived.Test.YtkoebmdocenlkaaSpecExp
import Derived.Test.YtkoebmdocenlkaaImplExp
import Derived.Test.YtkoebmdocenlkaaGraft
namespace Go.Proofs.Ytkoebmdocenlkaa
open Go.RowKit

set_option maxRecDepth 100000 in
set_option maxHeartbeats 1000000 in
theorem trDrop_any (s : ByteArray) (n : Int) (q : Nat) (w : World) (hs : s.size ≤ 1000) (hn : 0 ≤ n) (hn' : n ≤ 9223372036854775807) (hp : posFrom s.data.toList 0 n = (q : Int) + 1) (hq : q + 4 ≤ s.size) :
    Calls Try.prog 94 #[.string s, .int .i64 n] w (Gives (.string (dropS s q)) w) := by
  have HP0 := Lib.hid hp
  clear hp
  go_enter Try.func94, Try.ntmps94
  go_wp2_with fail
  go_loopw [5, 6] (fun v i wr => ∃ (k : Nat) (c : Int), k ≤ s.size ∧ i = .int .i64 k ∧ v = .int .i64 c ∧ 0 ≤ c ∧ c ≤ n ∧ c ≤ k ∧ wr = w ∧ Hid (posFrom s.data.toList 0 n = posFrom (s.data.toList.drop k) k (n - c))) (fun _ i _ => s.size - (intOf i).toNat)
  case atStart => exact ⟨0, 0, Nat.zero_le _, rfl, rfl, by omega, by omega, by omega, rfl, by show _ = _; simp⟩
  case round =>
    obtain ⟨k, c, hk, rfl, rfl, hc1, hc2, hck, rfl, he⟩ := hrel
    by_cases hlt : k < s.size
    · cases h46 : (((s[k]'hlt).toNat : Int) == 46) with
      | true =>
        have h46n : Hid ((((s[k]'hlt).toNat : Int) != 46) = false) := by show (_ != _) = false; rw [bne, h46]; rfl
        have hp := posFrom_dot (off := k) (n := n - c) hlt h46
        have HP := Lib.hid hp
        clear hp h46
        by_cases hm0 : c = n
        · have g0 : (c == n) = true := by simp [hm0]
          have hkq : k = q + 1 := by
            have h1 := he.out
            rw [HP.out, if_pos (by omega), HP0.out] at h1
            omega
          have HM := Lib.hid hm0
          have HKQ := Lib.hid hkq
          have hk1 : (1 : Int) ≤ k := by omega
          have hk3 : (k : Int) + 3 ≤ s.size := by omega
          clear hm0 hkq
          have g := h46n.out
          go_wp2_with fail
          clear g g0
          go_quiet (fail)
          go_wp2_with fail
          go_ret
          exact ⟨ret_str (by unfold dropS; rw [HKQ.out, Nat.add_sub_cancel]), drewB (Below.refl _ _) _⟩
        · have g0 : (c == n) = false := by simp [hm0]
          have HM := Lib.hid hm0
          have hlt2 : c < n := by omega
          clear hm0
          have g := h46n.out
          go_wp2_with fail
          clear g g0
          go_roundw
          case rel => exact ⟨k + 1, c + 1, by omega, by go_num, rfl, by omega, by omega, by omega, trivial, by show _ = _; rw [he.out, HP.out, if_neg (by omega)]; congr 1; omega⟩
          case measure => simp [intOf]; omega
      | false =>
        have h46n : Hid ((((s[k]'hlt).toNat : Int) != 46) = true) := by show (_ != _) = true; rw [bne, h46]; rfl
        have hp := posFrom_other (off := k) (n := n - c) hlt h46
        have HP := Lib.hid hp
        clear hp h46
        have g := h46n.out
        go_wp2_with fail
        clear g
        go_roundw
        case rel => exact ⟨k + 1, c, by omega, by go_num, rfl, by omega, by omega, by omega, trivial, by show _ = _; rw [he.out, HP.out]⟩
        case measure => simp [intOf]; omega
    · obtain rfl : k = s.size := by omega
      exfalso
      have h1 := he.out
      rw [posFrom_end, HP0.out] at h1
      omega

def dropExpO (a : ByteArray) (n : Int) : Option ByteArray :=
  match treeOf a with
  | some _ => dropO a n
  | none => none

theorem has_exL (l : List UInt8) (n : Int) : (exL l 0).contains n = dropB l n := by
  rw [Bool.eq_iff_iff, List.contains_iff_mem, mem_exL]
  simp

set_option maxHeartbeats 1000000 in
theorem withoutExposed_any (s : ByteArray) (n : Int) (w : World) (hsm : s.size ≤ 1000) (lo : -9223372036854775808 ≤ n) (hi : n ≤ 9223372036854775807) :
    Calls Try.prog 119 #[.string s, .int .i64 n] w (Gives (ans2 (dropO s n)) w) := by
  have hl : ∀ w, Calls Try.prog 123 #[.string s, .int .i64 n] w (Quietly (.int .i64 (posFrom s.data.toList 0 n)) w) := by
    intro w
    by_cases hneg : n < 0
    · rw [posFrom_neg _ _ _ hneg]; exact leafPlace_neg s n w hsm hneg lo
    · exact leafPlace_any s n w (by omega) (by omega) hi
  have hr := posFrom_range s.data.toList 0 n
  have hrl : s.data.toList.length = s.size := (Lib.size_eq _).symm
  by_cases h1 : posFrom s.data.toList 0 n < 1
  · have hnone : dropO s n = none := by
      unfold dropO
      rw [if_neg]
      intro e
      obtain ⟨q, hp, _⟩ := dropB_true e
      omega
    rw [hnone]
    have hr' : -1 ≤ posFrom s.data.toList 0 n := by omega
    obtain ⟨p, hp⟩ : ∃ p, p = posFrom s.data.toList 0 n := ⟨_, rfl⟩
    rw [← hp] at hl h1 hr'
    clear hp hnone hr hrl
    go_enter Try.func119, Try.ntmps119
    go_wp2_with fail
    refine (hl _).mono ?_; rintro e w2 ⟨rfl, d, rfl⟩
    go_wp2_with fail
    go_ret2
    exact ⟨rfl, drewB (Below.refl _ _) _⟩
  · obtain ⟨q, hp⟩ : ∃ q : Nat, posFrom s.data.toList 0 n = (q : Int) + 1 := ⟨(posFrom s.data.toList 0 n).toNat - 1, by omega⟩
    have hql : (q : Int) ≤ s.size := by omega
    have hpc := hasPrefixS_any (s.extract q s.size) (ByteArray.mk #[40, 46, 46, 41])
    rw [expB_from] at hpc
    have hsz : (s.extract q s.size).size ≤ 9223372036854775806 := by simp; omega
    have hdB : dropB s.data.toList n = expB (s.data.toList.drop q) := by
      unfold dropB
      rw [hp]
      have t2 : ((q : Int) + 1).toNat - 1 = q := by omega
      rw [t2, decide_eq_true (by omega : 1 ≤ (q : Int) + 1), Bool.true_and]
    have hv : Hid ((posFrom s.data.toList 0 n).toNat - 1 = q) := by show _ = _; rw [hp]; omega
    rw [hp] at hl
    unfold dropO
    cases hE : expB (s.data.toList.drop q) with
    | false =>
      rw [hE] at hpc
      rw [hdB, hE]
      clear hp hr hrl h1 hdB hE
      go_enter Try.func119, Try.ntmps119
      go_wp2_with fail
      refine (hl _).mono ?_; rintro e w2 ⟨rfl, d, rfl⟩
      go_wp2_with fail
      refine (hpc _ hsz (by decide)).mono ?_; rintro e w3 ⟨rfl, rfl⟩
      go_wp2_with fail
      go_ret2
      exact ⟨rfl, drewB (Below.refl _ _) _⟩
    | true =>
      have hq4 := expB_drop hE
      rw [hrl] at hq4
      have hq4' : (q : Int) + 4 ≤ s.size := by omega
      rw [hE] at hpc
      rw [hdB, hE]
      clear hp hr hrl h1 hdB hE
      go_enter Try.func119, Try.ntmps119
      go_wp2_with fail
      refine (hl _).mono ?_; rintro e w2 ⟨rfl, d, hw2⟩
      have hb2 : Below w.heap.size w w2 := by rw [hw2]; exact drewB (Below.refl _ _) d
      clear hw2
      go_wp2_with fail
      refine (hpc _ hsz (by decide)).mono ?_; rintro e w3 ⟨rfl, rfl⟩
      go_wp2_with fail
      go_quiet (fail)
      go_wp2_with fail
      go_ret2
      exact ⟨by rw [hv.out]; rfl, drewB hb2 _⟩

end Go.Proofs.Ytkoebmdocenlkaa
