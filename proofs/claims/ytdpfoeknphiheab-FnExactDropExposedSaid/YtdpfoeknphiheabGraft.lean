/- Walks: GraftAt of both sides. -/
import Derived.Test.YtdpfoeknphiheabAns
import Derived.Test.YtdpfoeknphiheabLeaf
namespace Go.Proofs.Ytdpfoeknphiheab
open Go.RowKit

/-- An answer of a text and a bool. -/
def ans2 (o : Option ByteArray) : Value := .tuple #[.string (o.getD ⟨#[]⟩), .bool o.isSome]

theorem l1In_yes (n lo hi : Int) (w : World) (h1 : lo ≤ n) (h2 : n ≤ hi) :
    Calls Try.prog 58 #[.int .i64 n, .int .i64 lo, .int .i64 hi] w fun e w' => e = .returned (.bool true) ∧ w = w' := by
  go_enter Try.func58, Try.ntmps58
  go_wp2_with fail
  go_ret
  exact ⟨rfl, rfl⟩
theorem l1In_no (n lo hi : Int) (w : World) (h : n < lo ∨ hi < n) :
    Calls Try.prog 58 #[.int .i64 n, .int .i64 lo, .int .i64 hi] w fun e w' => e = .returned (.bool false) ∧ w = w' := by
  by_cases h1 : n < lo
  · clear h
    go_enter Try.func58, Try.ntmps58
    go_wp2_with fail
    go_ret
    exact ⟨rfl, rfl⟩
  · have h1' : lo ≤ n := by omega
    have h2 : hi < n := by omega
    clear h h1
    go_enter Try.func58, Try.ntmps58
    go_wp2_with fail
    go_ret
    exact ⟨ret_bool (by simp; omega), rfl⟩

def graftO (a : ByteArray) (n : Int) (b : ByteArray) : Option ByteArray :=
  match treeOf a, treeOf b with
  | some t, some u => if 0 ≤ n ∧ n ≤ t.carets ∧ t.carets + u.carets ≤ 8 then some (graftS a n b) else none
  | _, _ => none

set_option maxRecDepth 100000 in
set_option maxHeartbeats 1000000 in
theorem leafPlace_neg (s : ByteArray) (n : Int) (w : World) (hs : s.size ≤ 1000) (hn : n < 0) (hn' : -9223372036854775808 ≤ n) :
    Calls Try.prog 48 #[.string s, .int .i64 n] w (Quietly (.int .i64 (-1)) w) := by
  go_enter Try.func48, Try.ntmps48
  go_wp2_with fail
  go_loopw [1, 8] (fun v i wr => ∃ (k : Nat) (m : Int) (d : Nat), k ≤ s.size ∧ i = .int .i64 k ∧ v = .int .i64 m ∧ -9223372036854775808 ≤ m ∧ m ≤ 9223372036854775807 ∧ Hid (m < 0 ∨ 9223372036854775807 - (k : Int) ≤ m) ∧ wr = w.drewN d) (fun _ i _ => s.size - (intOf i).toNat)
  case atStart => exact ⟨0, n, 0, Nat.zero_le _, rfl, rfl, by omega, by omega, .inl hn, rfl⟩
  case round =>
    obtain ⟨k, m, d, hk, rfl, rfl, hm, hm', hor, rfl⟩ := hrel
    by_cases hlt : k < s.size
    · cases h46 : (((s[k]'hlt).toNat : Int) == 46) with
      | true =>
        have h46' : Hid ((((s[k]'hlt).toNat : Int) != 46) = false) := by show (_ != _) = false; rw [bne, h46]; rfl
        clear h46
        have g0 : (m == 0) = false := by have := hor.out; simp; omega
        by_cases hmin : m = -9223372036854775808
        · obtain rfl := hmin
          go_wp2_with fail
          have g := h46'.out
          have gz : ((⟨#[46]⟩ : ByteArray)[0]'(by decide)).toNat = 46 := rfl
          go_quiet (fail)
          go_wp2_with fail
          clear g gz g0
          go_roundw
          case rel => exact ⟨k + 1, 9223372036854775807, _, by omega, by go_num, by unfold wrap64; rfl, by omega, by omega, .inr (by omega), rfl⟩
          case measure => simp [intOf]; omega
        · have hm2 : -9223372036854775807 ≤ m := by omega
          clear hmin
          go_wp2_with fail
          have g := h46'.out
          have gz : ((⟨#[46]⟩ : ByteArray)[0]'(by decide)).toNat = 46 := rfl
          go_quiet (fail)
          go_wp2_with fail
          clear g gz g0
          go_roundw
          case rel => exact ⟨k + 1, m - 1, _, by omega, by go_num, rfl, by omega, by omega, by have := hor.out; show _ ∨ _; omega, rfl⟩
          case measure => simp [intOf]; omega
      | false =>
        have h46' : Hid ((((s[k]'hlt).toNat : Int) != 46) = true) := by show (_ != _) = true; rw [bne, h46]; rfl
        clear h46
        go_wp2_with fail
        have g := h46'.out
        have gz : ((⟨#[46]⟩ : ByteArray)[0]'(by decide)).toNat = 46 := rfl
        go_quiet (fail)
        go_wp2_with fail
        clear g gz
        go_roundw
        case rel => exact ⟨k + 1, m, _, by omega, by go_num, rfl, by omega, by omega, by have := hor.out; show _ ∨ _; omega, rfl⟩
        case measure => simp [intOf]; omega
    · obtain rfl : k = s.size := by omega
      go_wp2_with fail
      go_ret
      exact ⟨rfl, _, rfl⟩

end Go.Proofs.Ytdpfoeknphiheab
