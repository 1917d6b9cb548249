/- Walks: impl.leafPlace, spec.trGraft. -/
import Derived.Test.YtllnfbenaeeloacText
import Derived.Test.YtllnfbenaeeloacDots
namespace Go.Proofs.Ytllnfbenaeeloac
open Go.RowKit

theorem posFrom_dot {s : ByteArray} {k : Nat} {off : Nat} {n : Int} (h : k < s.size) (hb : (((s[k]'h).toNat : Int) == 46) = true) :
    posFrom (s.data.toList.drop k) off n = if n = 0 then (off : Int) else posFrom (s.data.toList.drop (k + 1)) (off + 1) (n - 1) := by
  obtain ⟨c, r, hd, hc, hr⟩ := drop_of_byteAt h
  have h1 : byteAt s k = (s[k]'h).toNat := byteAt_eq s k h
  have : c = 46 := u8_eq (n := 46) (by omega) (by rw [← hc, h1]; simpa using hb)
  rw [hd, posFrom, if_pos this, hr]
theorem posFrom_other {s : ByteArray} {k : Nat} {off : Nat} {n : Int} (h : k < s.size) (hb : (((s[k]'h).toNat : Int) == 46) = false) :
    posFrom (s.data.toList.drop k) off n = posFrom (s.data.toList.drop (k + 1)) (off + 1) n := by
  obtain ⟨c, r, hd, hc, hr⟩ := drop_of_byteAt h
  have h1 : byteAt s k = (s[k]'h).toNat := byteAt_eq s k h
  have : ¬ c = 46 := fun e => by
    have : (((s[k]'h).toNat : Int)) = 46 := by rw [← h1, hc, e]; rfl
    simp [this] at hb
  rw [hd, posFrom, if_neg this, hr]
theorem posFrom_end {s : ByteArray} {off : Nat} {n : Int} : posFrom (s.data.toList.drop s.size) off n = -1 := by
  rw [List.drop_of_length_le (by rw [Lib.size_eq]; exact Nat.le_refl _)]; rfl

set_option maxRecDepth 100000 in
set_option maxHeartbeats 1000000 in
theorem leafPlace_any (s : ByteArray) (n : Int) (w : World) (hs : s.size ≤ 9223372036854775806) (hn : 0 ≤ n) (hn' : n ≤ 9223372036854775807) :
    Calls Try.prog 19 #[.string s, .int .i64 n] w (Quietly (.int .i64 (posFrom s.data.toList 0 n)) w) := by
  go_enter Try.func19, Try.ntmps19
  go_wp2_with fail
  go_loopw [1, 8] (fun v i wr => ∃ (k : Nat) (m : Int) (d : Nat), k ≤ s.size ∧ i = .int .i64 k ∧ v = .int .i64 m ∧ 0 ≤ m ∧ m ≤ 9223372036854775807 ∧ wr = w.drewN d ∧ Hid (posFrom s.data.toList 0 n = posFrom (s.data.toList.drop k) k m)) (fun _ i _ => s.size - (intOf i).toNat)
  case atStart => exact ⟨0, n, 0, Nat.zero_le _, rfl, rfl, hn, hn', rfl, rfl⟩
  case round =>
    obtain ⟨k, m, d, hk, rfl, rfl, hm, hm', rfl, he⟩ := hrel
    by_cases hlt : k < s.size
    · cases h46 : (((s[k]'hlt).toNat : Int) == 46) with
      | true =>
        have h46' : Hid ((((s[k]'hlt).toNat : Int) != 46) = false) := by show (_ != _) = false; rw [bne, h46]; rfl
        have hp := posFrom_dot (off := k) (n := m) hlt h46
        have HP := Lib.hid hp
        clear hp h46
        by_cases hm0 : m = 0
        · have g0 : (m == 0) = true := by simp [hm0]
          have HM := Lib.hid hm0
          clear hm0
          go_wp2_with fail
          have g := h46'.out
          have gz : ((⟨#[46]⟩ : ByteArray)[0]'(by decide)).toNat = 46 := rfl
          go_quiet (fail)
          go_wp2_with fail
          go_ret
          exact ⟨ret_int (by rw [he.out, HP.out, if_pos HM.out]), _, rfl⟩
        · have g0 : (m == 0) = false := by simp [hm0]
          have hm1 : 1 ≤ m := by omega
          have HM := Lib.hid hm0
          clear hm0
          go_wp2_with fail
          have g := h46'.out
          have gz : ((⟨#[46]⟩ : ByteArray)[0]'(by decide)).toNat = 46 := rfl
          go_quiet (fail)
          go_wp2_with fail
          clear g gz
          go_roundw
          case rel => exact ⟨k + 1, m - 1, _, by omega, by go_num, rfl, by omega, by omega, rfl, by show _ = _; rw [he.out, HP.out, if_neg HM.out]⟩
          case measure => simp [intOf]; omega
      | false =>
        have h46' : Hid ((((s[k]'hlt).toNat : Int) != 46) = true) := by show (_ != _) = true; rw [bne, h46]; rfl
        have hp := posFrom_other (off := k) (n := m) hlt h46
        have HP := Lib.hid hp
        clear hp h46
        go_wp2_with fail
        have g := h46'.out
        have gz : ((⟨#[46]⟩ : ByteArray)[0]'(by decide)).toNat = 46 := rfl
        go_quiet (fail)
        go_wp2_with fail
        clear g gz
        go_roundw
        case rel => exact ⟨k + 1, m, _, by omega, by go_num, rfl, by omega, by omega, rfl, by show _ = _; rw [he.out, HP.out]⟩
        case measure => simp [intOf]; omega
    · obtain rfl : k = s.size := by omega
      go_wp2_with fail
      go_ret
      exact ⟨ret_int (by rw [he.out, posFrom_end]), _, rfl⟩

set_option maxRecDepth 100000 in
set_option maxHeartbeats 1000000 in
theorem trGraft_any (s o : ByteArray) (n : Int) (w : World) (hs : s.size ≤ 1000) (ho : o.size ≤ 1000) (hn : 0 ≤ n) (hn' : n ≤ 9223372036854775807) (hp : 0 ≤ posFrom s.data.toList 0 n) :
    Calls Try.prog 9 #[.string s, .int .i64 n, .string o] w (Gives (.string (graftS s n o)) w) := by
  have HP0 := Lib.hid hp
  clear hp
  go_enter Try.func9, Try.ntmps9
  go_wp2_with fail
  go_loopw [7, 8] (fun v i wr => ∃ (k : Nat) (c : Int), k ≤ s.size ∧ i = .int .i64 k ∧ v = .int .i64 c ∧ -1 ≤ c ∧ c < n ∧ wr = w ∧ Hid (posFrom s.data.toList 0 n = posFrom (s.data.toList.drop k) k (n - (c + 1)))) (fun _ i _ => s.size - (intOf i).toNat)
  case atStart => exact ⟨0, -1, Nat.zero_le _, rfl, rfl, by omega, by omega, rfl, by show _ = _; simp⟩
  case round =>
    obtain ⟨k, c, hk, rfl, rfl, hc1, hc2, rfl, he⟩ := hrel
    by_cases hlt : k < s.size
    · cases h46 : (((s[k]'hlt).toNat : Int) == 46) with
      | true =>
        have hp := posFrom_dot (off := k) (n := n - (c + 1)) hlt h46
        have HP := Lib.hid hp
        have H46 := Lib.hid h46
        clear hp h46
        by_cases hm0 : c + 1 = n
        · have g0 : (c + 1 == n) = true := by simp [hm0]
          have hpos : Hid ((posFrom s.data.toList 0 n).toNat = k) := by
            show _ = _
            rw [he.out, HP.out, if_pos (by omega)]; rfl
          have HM := Lib.hid hm0
          clear hm0
          have g := H46.out
          go_wp2_with fail
          clear g g0
          go_region
          all_goals (try go_wp2_with fail)
          all_goals go_ret
          exact ⟨ret_str (by unfold graftS; rw [hpos.out]), (Below.refl _ _).drew⟩
        · have g0 : (c + 1 == n) = false := by simp [hm0]
          have HM := Lib.hid hm0
          have hlt2 : c + 1 < n := by omega
          clear hm0
          have g := H46.out
          go_wp2_with fail
          clear g g0
          go_roundw
          case rel => exact ⟨k + 1, c + 1, by omega, by go_num, rfl, by omega, by omega, trivial, by show _ = _; rw [he.out, HP.out, if_neg (by omega)]; congr 1; omega⟩
          case measure => simp [intOf]; omega
      | false =>
        have hp := posFrom_other (off := k) (n := n - (c + 1)) hlt h46
        have HP := Lib.hid hp
        have H46 := Lib.hid h46
        clear hp h46
        have g0 : (c == n) = false := by simp; omega
        have g := H46.out
        go_wp2_with fail
        clear g g0
        go_roundw
        case rel => exact ⟨k + 1, c, by omega, by go_num, rfl, by omega, by omega, trivial, by show _ = _; rw [he.out, HP.out]⟩
        case measure => simp [intOf]; omega
    · obtain rfl : k = s.size := by omega
      exfalso
      have h1 := he.out
      rw [posFrom_end] at h1
      have := HP0.out
      omega

end Go.Proofs.Ytllnfbenaeeloac
