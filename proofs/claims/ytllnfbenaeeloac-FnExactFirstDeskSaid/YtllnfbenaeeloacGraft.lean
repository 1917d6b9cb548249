/- Walks: GraftAt of both sides. -/
import Derived.Test.YtllnfbenaeeloacIn
import Derived.Test.YtllnfbenaeeloacLeaf
namespace Go.Proofs.Ytllnfbenaeeloac
open Go.RowKit

theorem limitS_yes (s : ByteArray) (w : World) (h : (s.size : Int) ≤ 25) : Calls Try.prog 20 #[.string s] w fun e w' => e = .returned (.tuple #[.string s, .bool true]) ∧ w = w' := by
  go_enter Try.func20, Try.ntmps20
  go_wp2_with fail
  go_ret2
  exact ⟨rfl, rfl⟩
theorem limitS_no (s : ByteArray) (w : World) (h : 25 < (s.size : Int)) : Calls Try.prog 20 #[.string s] w fun e w' => e = .returned (.tuple #[.string ⟨#[]⟩, .bool false]) ∧ w = w' := by
  go_enter Try.func20, Try.ntmps20
  go_wp2_with fail
  go_ret2
  exact ⟨rfl, rfl⟩

def graftO (a : ByteArray) (n : Int) (b : ByteArray) : Option ByteArray :=
  match treeOf a, treeOf b with
  | some t, some u => if 0 ≤ n ∧ n ≤ t.carets ∧ t.carets + u.carets ≤ 8 then some (graftS a n b) else none
  | _, _ => none

set_option maxRecDepth 100000 in
set_option maxHeartbeats 1000000 in
theorem leafPlace_neg (s : ByteArray) (n : Int) (w : World) (hs : s.size ≤ 1000) (hn : n < 0) (hn' : -9223372036854775808 ≤ n) :
    Calls Try.prog 19 #[.string s, .int .i64 n] w (Quietly (.int .i64 (-1)) w) := by
  go_enter Try.func19, Try.ntmps19
  go_wp2_with fail
  go_loopw [1, 8] (fun v i wr => ∃ (k : Nat) (m : Int) (d : Nat), k ≤ s.size ∧ i = .int .i64 k ∧ v = .int .i64 m ∧ -9223372036854775808 ≤ m ∧ m ≤ 9223372036854775807 ∧ Hid (m < 0 ∨ 9223372036854775807 - (k : Int) ≤ m) ∧ wr = w.drewN d) (fun _ i _ => s.size - (intOf i).toNat)
  case atStart => exact ⟨0, n, 0, Nat.zero_le _, rfl, rfl, by omega, by omega, .inl hn, rfl⟩
  case round =>
    obtain ⟨k, m, d, hk, rfl, rfl, hm, hm', hor, rfl⟩ := hrel
    by_cases hlt : k < s.size
    · cases h46 : (((s[k]'hlt).toNat : Int) == 46) with
      | true =>
        have h46' : Hid ((((s[k]'hlt).toNat : Int) != 46) = false) := by show (_ != _) = false; rw [bne, h46]; rfl
        clear h46
        have g0 : (m == 0) = false := by have := hor.out; simp; omega
        by_cases hmin : m = -9223372036854775808
        · obtain rfl := hmin
          go_wp2_with fail
          have g := h46'.out
          have gz : ((⟨#[46]⟩ : ByteArray)[0]'(by decide)).toNat = 46 := rfl
          go_quiet (fail)
          go_wp2_with fail
          clear g gz g0
          go_roundw
          case rel => exact ⟨k + 1, 9223372036854775807, _, by omega, by go_num, by unfold wrap64; rfl, by omega, by omega, .inr (by omega), rfl⟩
          case measure => simp [intOf]; omega
        · have hm2 : -9223372036854775807 ≤ m := by omega
          clear hmin
          go_wp2_with fail
          have g := h46'.out
          have gz : ((⟨#[46]⟩ : ByteArray)[0]'(by decide)).toNat = 46 := rfl
          go_quiet (fail)
          go_wp2_with fail
          clear g gz g0
          go_roundw
          case rel => exact ⟨k + 1, m - 1, _, by omega, by go_num, rfl, by omega, by omega, by have := hor.out; show _ ∨ _; omega, rfl⟩
          case measure => simp [intOf]; omega
      | false =>
        have h46' : Hid ((((s[k]'hlt).toNat : Int) != 46) = true) := by show (_ != _) = true; rw [bne, h46]; rfl
        clear h46
        go_wp2_with fail
        have g := h46'.out
        have gz : ((⟨#[46]⟩ : ByteArray)[0]'(by decide)).toNat = 46 := rfl
        go_quiet (fail)
        go_wp2_with fail
        clear g gz
        go_roundw
        case rel => exact ⟨k + 1, m, _, by omega, by go_num, rfl, by omega, by omega, by have := hor.out; show _ ∨ _; omega, rfl⟩
        case measure => simp [intOf]; omega
    · obtain rfl : k = s.size := by omega
      go_wp2_with fail
      go_ret
      exact ⟨rfl, _, rfl⟩

set_option maxHeartbeats 400000 in
theorem implGraftAt_any (a : ByteArray) (n : Int) (b : ByteArray) (w : World) (ha : a.size ≤ 9223372036854775806) (hb : b.size ≤ 9223372036854775806) (hn' : -9223372036854775808 ≤ n) (hn : n ≤ 9223372036854775807) :
    Calls Try.prog 13 #[.string a, .int .i64 n, .string b] w (Gives (ans2 (graftO a n b)) w) := by
  cases h : treeOf a with
  | none =>
    rw [show graftO a n b = none by simp [graftO, h]]
    have H := Lib.hid h
    clear h
    go_enter Try.func13, Try.ntmps13
    go_wp2_with fail
    refine (implIsTree_no a _ ha H.out).mono ?_; rintro e w1 ⟨hb1, rfl⟩
    go_wp2_with fail
    go_ret2
    exact ⟨rfl, hb1⟩
  | some t =>
    obtain ⟨rfl, hc⟩ := treeOf_some h
    have st := t.str_size
    cases k : treeOf b with
    | none =>
      rw [show graftO t.str n b = none by simp [graftO, k]]
      have H := Lib.hid k
      clear h k
      go_enter Try.func13, Try.ntmps13
      go_wp2_with fail
      refine (implIsTree_yes t _ hc).mono ?_; rintro e w1 ⟨hb1, rfl⟩
      go_wp2_with fail
      refine (implIsTree_no b _ hb H.out).mono ?_; rintro e w2 ⟨hb2, rfl⟩
      go_wp2_with fail
      go_ret2
      exact ⟨rfl, nx hb1 hb2⟩
    | some u =>
      obtain ⟨rfl, hd⟩ := treeOf_some k
      have su := u.str_size
      rcases pos_str t n with ⟨hn0, hn1, hp0, hp1⟩ | ⟨hout, hp⟩
      · have gs := graft_size t n u.str hp0 hp1
        have HG : graftO t.str n u.str = if (t.carets : Int) + u.carets ≤ 8 then some (graftS t.str n u.str) else none := by
          simp only [graftO, h, k]
          by_cases hz : (t.carets : Int) + u.carets ≤ 8
          · rw [if_pos hz, if_pos (by omega)]
          · rw [if_neg hz, if_neg (by omega)]
        clear h k
        obtain ⟨q, hq⟩ : ∃ q : Nat, posFrom t.str.data.toList 0 n = q := ⟨(posFrom t.str.data.toList 0 n).toNat, by omega⟩
        have hgr : graftS t.str n u.str = t.str.extract 0 q ++ u.str ++ t.str.extract (q + 1) t.str.size := by unfold graftS; rw [hq]; rfl
        have hlq : q < t.str.size := by omega
        have hzt : t.str.size ≤ 1000 := by omega
        have hzu : u.str.size ≤ 1000 := by omega
        have hc3 := leafPlace_any t.str n
        rw [hq] at hc3
        have HQ := Lib.hid hgr
        have GS := Lib.hid gs
        by_cases hz : (t.carets : Int) + u.carets ≤ 8
        · rw [HG, if_pos hz]
          have hsz : Hid (((t.str.extract 0 q ++ u.str ++ t.str.extract (q + 1) t.str.size).size : Int) ≤ 25) := by
            show _ ≤ _
            rw [← hgr, gs]; omega
          clear HG hq hgr gs hp0 hp1 st su
          go_enter Try.func13, Try.ntmps13
          go_wp2_with fail
          refine (implIsTree_yes t _ hc).mono ?_; rintro e w1 ⟨hb1, rfl⟩
          go_wp2_with fail
          refine (implIsTree_yes u _ hd).mono ?_; rintro e w2 ⟨hb2, rfl⟩
          go_wp2_with fail
          refine (hc3 _ ha hn0 hn).mono ?_; rintro e w3 ⟨rfl, d, hw3⟩; have hb3 : Below w.heap.size w w3 := by rw [hw3]; exact drewB (nx hb1 hb2) d
          clear hw3
          go_wp2_with fail
          have hq1 : (q : Int) ≤ (t.str.size : Int) := by omega
          have hq2 : (q : Int) + 1 ≤ (t.str.size : Int) := by omega
          go_quiet ((go_at_call 20; exact quiet_eq (limitS_yes _ _ hsz.out)))
          go_wp2_with fail
          go_ret2
          exact ⟨by rw [HQ.out]; rfl, drewB hb3 _⟩
        · rw [HG, if_neg hz]
          have hsz : Hid (25 < ((t.str.extract 0 q ++ u.str ++ t.str.extract (q + 1) t.str.size).size : Int)) := by
            show _ < _
            rw [← hgr, gs]; omega
          clear HG hq hgr gs hp0 hp1 st su
          go_enter Try.func13, Try.ntmps13
          go_wp2_with fail
          refine (implIsTree_yes t _ hc).mono ?_; rintro e w1 ⟨hb1, rfl⟩
          go_wp2_with fail
          refine (implIsTree_yes u _ hd).mono ?_; rintro e w2 ⟨hb2, rfl⟩
          go_wp2_with fail
          refine (hc3 _ ha hn0 hn).mono ?_; rintro e w3 ⟨rfl, d, hw3⟩; have hb3 : Below w.heap.size w w3 := by rw [hw3]; exact drewB (nx hb1 hb2) d
          clear hw3
          go_wp2_with fail
          have hq1 : (q : Int) ≤ (t.str.size : Int) := by omega
          have hq2 : (q : Int) + 1 ≤ (t.str.size : Int) := by omega
          go_quiet ((go_at_call 20; exact quiet_eq (limitS_no _ _ hsz.out)))
          go_wp2_with fail
          go_ret2
          exact ⟨rfl, drewB hb3 _⟩
      · have HG : graftO t.str n u.str = none := by
          simp only [graftO, h, k]
          rw [if_neg (by omega)]
        rw [HG]
        have hl : ∀ w, Calls Try.prog 19 #[.string t.str, .int .i64 n] w (Quietly (.int .i64 (-1)) w) := by
          intro w
          by_cases hneg : n < 0
          · exact leafPlace_neg t.str n w (by omega) hneg hn'
          · have := leafPlace_any t.str n w ha (by omega) hn
            rwa [hp] at this
        clear HG hp h k hout st su
        go_enter Try.func13, Try.ntmps13
        go_wp2_with fail
        refine (implIsTree_yes t _ hc).mono ?_; rintro e w1 ⟨hb1, rfl⟩
        go_wp2_with fail
        refine (implIsTree_yes u _ hd).mono ?_; rintro e w2 ⟨hb2, rfl⟩
        go_wp2_with fail
        refine (hl _).mono ?_; rintro e w3 ⟨rfl, d, rfl⟩
        go_wp2_with fail
        go_ret2
        exact ⟨rfl, drewB (nx hb1 hb2) _⟩
end Go.Proofs.Ytllnfbenaeeloac
